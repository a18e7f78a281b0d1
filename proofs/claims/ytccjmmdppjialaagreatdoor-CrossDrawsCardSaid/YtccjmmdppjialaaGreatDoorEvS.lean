/- The evaluator, S: two abstract states that say the same, their new blocks named otherwise. -/
import Derived.Test.YtccjmmdppjialaaGreatDoorEvJ
namespace Go.Proofs.YtccjmmdppjialaaGreatDoor
open Go.RowKit
namespace Ev

/-- The name in the one state, the name in the other: the old ones keep theirs. -/
def oth (lim : Nat) (σ : List (Nat × Nat)) (i : Nat) : Option Nat := bif Nat.blt i lim then some i else look σ i
def nm (lim : Nat) (σ : List (Nat × Nat)) (i j : Nat) : Bool := match oth lim σ i with
  | some k => Nat.beq k j
  | none => false
def rn (lim : Nat) (σ : List (Nat × Nat)) (r : Nat → Option (Nat × Nat)) (i : Nat) : Option (Nat × Nat) := match oth lim σ i with
  | some k => r k
  | none => none
theorem nm_oth {lim : Nat} {σ : List (Nat × Nat)} {i j : Nat} (h : nm lim σ i j = true) : oth lim σ i = some j := by
  unfold nm at h
  cases hl : oth lim σ i with
  | none => rw [hl] at h; cases h
  | some k => rw [hl] at h; simp only at h; rw [Nat.eq_of_beq_eq_true h]
theorem rn_of {lim : Nat} {σ : List (Nat × Nat)} {r : Nat → Option (Nat × Nat)} {i j : Nat} (h : oth lim σ i = some j) : rn lim σ r i = r j := by
  unfold rn
  rw [h]
theorem oth_old {lim : Nat} {σ : List (Nat × Nat)} {i : Nat} (h : i < lim) : oth lim σ i = some i := by
  unfold oth
  have : Nat.blt i lim = true := Nat.ble_eq_true_of_le h
  rw [this]; rfl
theorem oth_new {lim : Nat} {σ : List (Nat × Nat)} {i j : Nat} (h : oth lim σ i = some j) : (i < lim ∧ j = i) ∨ (lim ≤ i ∧ look σ i = some j) := by
  rcases Nat.lt_or_ge i lim with q | q
  · rw [oth_old q] at h; cases h; exact .inl ⟨q, rfl⟩
  · unfold oth at h
    have : Nat.blt i lim = false := by
      cases hb : Nat.blt i lim with
      | false => rfl
      | true => have := Nat.le_of_ble_eq_true hb; omega
    rw [this] at h
    exact .inr ⟨q, h⟩
def eqVs (f : Value → Value → Bool) : List Value → List Value → Bool
  | [], [] => true
  | x :: xs, y :: ys => bif f x y then eqVs f xs ys else false
  | _, _ => false
def eqV (lim : Nat) (σ : List (Nat × Nat)) : Nat → Value → Value → Bool
  | 0, _, _ => false
  | n + 1, x, y => match x, y with
    | .pointer (some ⟨b, o, none⟩), .pointer (some ⟨b', o', none⟩) => Nat.beq o o' && nm lim σ b b'
    | .slice (some ⟨b, o, none⟩) l c, .slice (some ⟨b', o', none⟩) l' c' => ((Nat.beq o o' && Nat.beq l l') && (Nat.beq c c' && Nat.beq (b % 64) (b' % 64))) && nm lim σ b b'
    | .agg xs, .agg ys => eqVs (eqV lim σ n) xs.toList ys.toList
    | .tuple xs, .tuple ys => eqVs (eqV lim σ n) xs.toList ys.toList
    | .func (.func f) xs us, .func (.func g) ys vs => Nat.beq f g && (eqVs (eqV lim σ n) xs.toList ys.toList && eqVs (eqV lim σ n) us.toList vs.toList)
    | .iface t u, .iface t' u' => Nat.beq t t' && eqV lim σ n u u'
    | .map (some i), .map (some j) => nm lim σ i j
    | .chan (some i), .chan (some j) => Nat.beq i j
    | .func (.yield i) ⟨[]⟩ ⟨[]⟩, .func (.yield j) _ _ => nm lim σ i j
    | x, y => af 4 x && beqV 6 x y
theorem eqVs_rel {f : Value → Value → Bool} {rA rB : Nat → Option (Nat × Nat)} (hf : ∀ x y v, f x y = true → VR rB y v → VR rA x v) : ∀ {xs ys vs : List Value}, eqVs f xs ys = true → LR rB ys vs → LR rA xs vs
  | [], [], vs, _, h => by
    have := h.1
    cases vs with
    | nil => exact .nil _
    | cons _ _ => simp at this
  | [], _ :: _, _, h, _ => by cases h
  | _ :: _, [], _, h, _ => by cases h
  | x :: xs, y :: ys, vs, h, hr => by
    simp only [eqVs] at h
    cases hb : f x y with
    | false => rw [hb] at h; cases h
    | true =>
      rw [hb] at h
      cases vs with
      | nil => have := hr.1; simp at this
      | cons v vs => exact .cons (hf _ _ _ hb hr.head) (eqVs_rel hf h hr.tail)
theorem eqV_rel {lim : Nat} {σ : List (Nat × Nat)} {rA rB : Nat → Option (Nat × Nat)} (hr : ∀ i j, nm lim σ i j = true → rA i = rB j) : ∀ (n : Nat) (x y v : Value), eqV lim σ n x y = true → VR rB y v → VR rA x v
  | 0, _, _, _, h, _ => by cases h
  | n + 1, x, y, v, h, hv => by
    have ih := eqV_rel hr n
    unfold eqV at h
    split at h
    · rename_i b o b' o'
      simp only [Bool.and_eq_true] at h
      obtain ⟨hs, g, hg, rfl⟩ := hv.of_ptr
      simp only at hg
      rw [Nat.eq_of_beq_eq_true h.1]
      exact .ptr b o' g ((hr _ _ h.2).trans hg)
    · rename_i b o l c b' o' l' c'
      simp only [Bool.and_eq_true] at h
      obtain ⟨⟨⟨h1, h2⟩, h3, h4⟩, h5⟩ := h
      obtain ⟨hs, g, c2, hg, hc, ht, rfl⟩ := hv.of_slice
      simp only at hg ht
      rw [Nat.eq_of_beq_eq_true h1, Nat.eq_of_beq_eq_true h2, Nat.eq_of_beq_eq_true h3]
      refine .slice b o' l' c' c2 g ((hr _ _ h5).trans hg) hc ?_
      rw [Nat.eq_of_beq_eq_true h4]
      exact ht
    · rename_i xs ys
      obtain ⟨vs, rfl, hl⟩ := hv.of_agg
      have := VR.agg' (eqVs_rel ih h hl)
      simpa using this
    · rename_i xs ys
      obtain ⟨vs, rfl, hl⟩ := hv.of_tuple
      have := VR.tuple' (eqVs_rel ih h hl)
      simpa using this
    · rename_i f xs us g ys vs
      simp only [Bool.and_eq_true] at h
      obtain ⟨ys', vs', rfl, h1, h2⟩ := hv.of_func rfl
      rw [Nat.eq_of_beq_eq_true h.1]
      have := VR.func' (.func g) rfl (eqVs_rel ih h.2.1 h1) (eqVs_rel ih h.2.2 h2)
      simpa using this
    · rename_i t u t' u'
      simp only [Bool.and_eq_true] at h
      obtain ⟨u1, rfl, h1⟩ := hv.of_iface
      rw [Nat.eq_of_beq_eq_true h.1]
      exact .iface _ _ _ (ih _ _ _ h.2 h1)
    · rename_i i j
      obtain ⟨g, hg, rfl⟩ := hv.of_map
      exact .map i g ((hr _ _ h).trans hg)
    · obtain ⟨e, a, c, rfl⟩ := hv.of_empty
      rw [Nat.eq_of_beq_eq_true h]
      cases e
      exact .empty a c
    · rename_i i j _ _
      obtain ⟨g, hg, rfl⟩ := hv.of_yield
      exact .yield i g ((hr _ _ h).trans hg)
    · simp only [Bool.and_eq_true] at h
      have e := beqV_eq 6 _ _ h.2
      subst e
      rw [hv.eq h.1]
      exact .same 4 _ h.1
def eqT (lim : Nat) (σ : List (Nat × Nat)) : Tr → Tr → Bool
  | .e, .e => true
  | .nd v l r, .nd u k q => bif eqV lim σ 6 v u then bif eqT lim σ l k then eqT lim σ r q else false else false
  | _, _ => false
theorem eqT_get {lim : Nat} {σ : List (Nat × Nat)} : ∀ {x y : Tr}, eqT lim σ x y = true → ∀ p, (getT p x = Go.undef ∧ getT p y = Go.undef) ∨ eqV lim σ 6 (getT p x) (getT p y) = true
  | .e, .e, _, p => by cases p <;> exact .inl ⟨rfl, rfl⟩
  | .e, .nd _ _ _, h, _ => by cases h
  | .nd _ _ _, .e, h, _ => by cases h
  | .nd v l r, .nd u k q, h, p => by
    simp only [eqT] at h
    cases h1 : eqV lim σ 6 v u with
    | false => rw [h1] at h; cases h
    | true =>
      rw [h1] at h
      cases h2 : eqT lim σ l k with
      | false => rw [h2] at h; cases h
      | true =>
        rw [h2] at h
        cases p with
        | nil => exact .inr h1
        | cons b p =>
          cases b with
          | true => exact eqT_get (x := r) (y := q) h p
          | false => exact eqT_get (x := l) (y := k) h2 p
def eqBl (lim : Nat) (σ : List (Nat × Nat)) (blB : List (Nat × List Value)) : List (Nat × List Value) → Bool
  | [] => true
  | (i, cs) :: r => match oth lim σ i with
    | some k => match look blB k with
      | some ds => bif Nat.beq (i % 64) (k % 64) then bif eqVs (eqV lim σ 6) cs ds then eqBl lim σ blB r else false else false
      | none => false
    | none => false
theorem eqVs_get {f : Value → Value → Bool} : ∀ {xs ys : List Value}, eqVs f xs ys = true → ∀ (j : Nat) x, xs[j]? = some x → ∃ y, ys[j]? = some y ∧ f x y = true
  | [], _, _, j, x, hx => by simp at hx
  | _ :: _, [], h, _, _, _ => by cases h
  | x :: xs, y :: ys, h, j, v, hv => by
    simp only [eqVs] at h
    cases hb : f x y with
    | false => rw [hb] at h; cases h
    | true =>
      rw [hb] at h
      cases j with
      | zero => cases hv; exact ⟨y, rfl, hb⟩
      | succ j => exact eqVs_get (xs := xs) (ys := ys) h j v hv
theorem eqBl_look {lim : Nat} {σ : List (Nat × Nat)} {blB : List (Nat × List Value)} : ∀ {bl : List (Nat × List Value)}, eqBl lim σ blB bl = true → ∀ i cs, look bl i = some cs → ∃ k ds, oth lim σ i = some k ∧ look blB k = some ds ∧ i % 64 = k % 64 ∧ ∀ (j : Nat) x, cs[j]? = some x → ∃ y, ds[j]? = some y ∧ eqV lim σ 6 x y = true
  | [], _, i, cs, h => by cases h
  | (i0, c0) :: r, h, i, cs, hl => by
    simp only [eqBl] at h
    split at h
    case h_2 => cases h
    rename_i k hk
    split at h
    case h_2 => cases h
    rename_i ds hd
    cases h1 : Nat.beq (i0 % 64) (k % 64) with
    | false => rw [h1] at h; cases h
    | true =>
      rw [h1] at h
      cases h2 : eqVs (eqV lim σ 6) c0 ds with
      | false => rw [h2] at h; cases h
      | true =>
        rw [h2] at h
        rw [look_cons] at hl
        by_cases e : i0 = i
        · rw [if_pos e] at hl; cases hl; subst e
          exact ⟨k, ds, hk, hd, Nat.eq_of_beq_eq_true h1, eqVs_get h2⟩
        · rw [if_neg e] at hl
          exact eqBl_look (bl := r) h i cs hl

/-! ### The names, found by going through both. -/
def disc2 (f : List (Nat × Nat) → Value → Value → List (Nat × Nat)) : List (Nat × Nat) → List Value → List Value → List (Nat × Nat)
  | acc, x :: xs, y :: ys => disc2 f (f acc x y) xs ys
  | acc, _, _ => acc
def discV (lim : Nat) : Nat → List (Nat × Nat) → Value → Value → List (Nat × Nat)
  | 0, acc, _, _ => acc
  | n + 1, acc, x, y => match x, y with
    | .pointer (some a), .pointer (some b) => bif Nat.blt a.block lim then acc else (a.block, b.block) :: acc
    | .slice (some a) _ _, .slice (some b) _ _ => bif Nat.blt a.block lim then acc else (a.block, b.block) :: acc
    | .agg xs, .agg ys => disc2 (discV lim n) acc xs.toList ys.toList
    | .tuple xs, .tuple ys => disc2 (discV lim n) acc xs.toList ys.toList
    | .func _ xs us, .func _ ys vs => disc2 (discV lim n) (disc2 (discV lim n) acc xs.toList ys.toList) us.toList vs.toList
    | .iface _ u, .iface _ v => discV lim n acc u v
    | .map (some a), .map (some b) => bif Nat.blt a lim then acc else (a, b) :: acc
    | _, _ => acc
def discE (f : List (Nat × Nat) → Value → Value → List (Nat × Nat)) : List (Nat × Nat) → List (Value × Value) → List (Value × Value) → List (Nat × Nat)
  | acc, p :: ps, q :: qs => discE f (f acc p.2 q.2) ps qs
  | acc, _, _ => acc
def discM (lim : Nat) (obB : List (Nat × AOb)) : List (Nat × AOb) → List (Nat × Nat) → List (Nat × Nat)
  | [], acc => acc
  | (i, .map es) :: r, acc => bif Nat.blt i lim then match look obB i with
      | some (.map fs) => discM lim obB r (discE (discV lim 6) acc es fs)
      | _ => discM lim obB r acc
    else discM lim obB r acc
  | _ :: r, acc => discM lim obB r acc
def discT (lim : Nat) : Tr → Tr → List (Nat × Nat) → List (Nat × Nat)
  | .nd v l r, .nd u k q, acc => discT lim r q (discT lim l k (discV lim 6 acc v u))
  | _, _, acc => acc
def discO (lim : Nat) (gl blB : List (Nat × List Value)) : List (Nat × List Value) → List (Nat × Nat) → List (Nat × Nat)
  | [], acc => acc
  | (i, cs) :: r, acc => bif Nat.blt i lim then match look gl i with
      | some _ => discO lim gl blB r acc
      | none => match look blB i with
        | some ds => discO lim gl blB r (disc2 (discV lim 6) acc cs ds)
        | none => discO lim gl blB r acc
    else discO lim gl blB r acc
def discB (lim : Nat) (blA blB : List (Nat × List Value)) (obA obB : List (Nat × AOb)) : Nat → List (Nat × Nat) → List (Nat × Nat) → List (Nat × Nat)
  | 0, _, done => done
  | _ + 1, [], done => done
  | n + 1, (a, b) :: todo, done => match look done a with
    | some _ => discB lim blA blB obA obB n todo done
    | none => match look blA a with
      | some cs => match look blB b with
        | some ds => discB lim blA blB obA obB n (disc2 (discV lim 6) todo cs ds) ((a, b) :: done)
        | none => discB lim blA blB obA obB n todo ((a, b) :: done)
      | none => match look obA a with
        | some (.map es) => (match look obB b with
          | some (.map fs) => discB lim blA blB obA obB n (discE (discV lim 6) todo es fs) ((a, b) :: done)
          | _ => discB lim blA blB obA obB n todo ((a, b) :: done))
        | _ => discB lim blA blB obA obB n todo ((a, b) :: done)
def twice : List (Nat × Nat) → Nat → Bool
  | [], _ => false
  | p :: r, j => bif Nat.beq p.2 j then true else twice r j
def sigOk (lim top : Nat) : List (Nat × Nat) → Bool
  | [] => true
  | (i, j) :: r => bif (Nat.blt i top && Nat.ble lim j) then bif twice r j then false else sigOk lim top r else false
theorem twice_of {j : Nat} : ∀ {σ : List (Nat × Nat)} {i : Nat}, look σ i = some j → twice σ j = true
  | [], i, h => by cases h
  | (a, b) :: r, i, h => by
    simp only [twice]
    rw [look_cons] at h
    cases hb : Nat.beq b j with
    | true => rfl
    | false =>
      by_cases e : a = i
      · rw [if_pos e] at h; cases h; simp at hb
      · rw [if_neg e] at h; exact twice_of h
theorem sigOk_at {lim top : Nat} : ∀ {σ : List (Nat × Nat)}, sigOk lim top σ = true → ∀ i j, look σ i = some j → i < top ∧ lim ≤ j ∧ ∀ k, look σ k = some j → k = i
  | [], _, i, j, h => by cases h
  | (a, b) :: r, h, i, j, hl => by
    simp only [sigOk] at h
    cases h1 : (Nat.blt a top && Nat.ble lim b) with
    | false => rw [h1] at h; cases h
    | true =>
      rw [h1] at h
      simp only [Bool.and_eq_true] at h1
      cases h2 : twice r b with
      | true => rw [h2] at h; cases h
      | false =>
        rw [h2] at h
        rw [look_cons] at hl
        by_cases e : a = i
        · rw [if_pos e] at hl; cases hl; subst e
          refine ⟨Nat.le_of_ble_eq_true h1.1, Nat.le_of_ble_eq_true h1.2, fun k hk => ?_⟩
          rw [look_cons] at hk
          by_cases e' : a = k
          · exact e'.symm
          · rw [if_neg e'] at hk
            rw [twice_of hk] at h2; cases h2
        · rw [if_neg e] at hl
          obtain ⟨k1, k2, k3⟩ := sigOk_at (σ := r) h i j hl
          refine ⟨k1, k2, fun k hk => ?_⟩
          rw [look_cons] at hk
          by_cases e' : a = k
          · rw [if_pos e'] at hk; cases hk
            rw [twice_of hl] at h2; cases h2
          · rw [if_neg e'] at hk
            exact k3 k hk

/-! ### Two states held against each other: the first is kept, as far as both have it. -/
def memB (i : Nat) : List Nat → Bool
  | [] => false
  | j :: r => bif Nat.beq j i then true else memB i r
def keptB (lim : Nat) (σ : List (Nat × Nat)) (gl : List (Nat × List Value)) (bad : List Nat) (i : Nat) : Bool := match look gl i with
  | some _ => false
  | none => match oth lim σ i with
    | some _ => !memB i bad
    | none => false
/-- The blocks that the other does not have so. -/
def badB (lim : Nat) (σ : List (Nat × Nat)) (blB : List (Nat × List Value)) : List (Nat × List Value) → List Nat
  | [] => []
  | (i, cs) :: r => match oth lim σ i with
    | some k => match look blB k with
      | some ds => bif Nat.beq (i % 64) (k % 64) then bif eqVs (eqV lim σ 6) cs ds then badB lim σ blB r else i :: badB lim σ blB r else i :: badB lim σ blB r
      | none => i :: badB lim σ blB r
    | none => badB lim σ blB r
/-- Maps that both have. -/
def eqEs (f : Value → Value → Bool) : List (Value × Value) → List (Value × Value) → Bool
  | [], [] => true
  | (k, v) :: r, (k', v') :: r' => bif beqV 6 k k' then bif f v v' then eqEs f r r' else false else false
  | _, _ => false
theorem eqEs_rel {f : Value → Value → Bool} {rA rB : Nat → Option (Nat × Nat)} (hf : ∀ x y v, f x y = true → VR rB y v → VR rA x v) : ∀ {es fs : List (Value × Value)} {l : List MapEntry}, eqEs f es fs = true → EntsR rB fs l → EntsR rA es l
  | [], [], [], _, _ => trivial
  | [], [], _ :: _, _, h => h.elim
  | [], _ :: _, _, h, _ => by cases h
  | _ :: _, [], _, h, _ => by cases h
  | (k, v) :: es, (k', v') :: fs, l, h, hr => by
    simp only [eqEs] at h
    cases h1 : beqV 6 k k' with
    | false => rw [h1] at h; cases h
    | true =>
      rw [h1] at h
      simp only [cond_true] at h
      cases h2 : f v v' with
      | false => rw [h2] at h; cases h
      | true =>
        rw [h2] at h
        cases l with
        | nil => exact hr.elim
        | cons e l =>
          obtain ⟨⟨k1, k2⟩, k3⟩ := hr
          refine ⟨⟨?_, hf _ _ _ h2 k2⟩, eqEs_rel hf h k3⟩
          rw [beqV_eq 6 _ _ h1]; exact k1
def keptO (lim : Nat) (σ : List (Nat × Nat)) (obA obB : List (Nat × AOb)) (i : Nat) : Bool := match look obA i with
  | some (.map es) => match oth lim σ i with
    | some k => match look obB k with
      | some (.map fs) => eqEs (eqV lim σ 6) es fs
      | _ => false
    | none => false
  | _ => false
theorem keptO_some {lim : Nat} {σ : List (Nat × Nat)} {obA obB : List (Nat × AOb)} {i : Nat} {o : AOb} (h : look (sel (keptO lim σ obA obB) obA) i = some o) :
    look obA i = some o ∧ ∃ es k fs, o = .map es ∧ oth lim σ i = some k ∧ look obB k = some (.map fs) ∧ eqEs (eqV lim σ 6) es fs = true := by
  obtain ⟨h1, h2⟩ := look_sel_some h
  refine ⟨h2, ?_⟩
  unfold keptO at h1
  rw [h2] at h1
  split at h1
  case h_2 => cases h1
  rename_i es he
  split at h1
  case h_2 => cases h1
  rename_i k hk
  split at h1
  case h_2 => cases h1
  rename_i fs hf
  cases he
  exact ⟨es, k, fs, rfl, hk, hf, h1⟩
def simG (lim : Nat) (gs hs : List Nat) : Bool := beqN gs hs && gs.all fun g => Nat.blt (64 * g) lim
def simσ (lim lo : Nat) (gl : List (Nat × List Value)) (σ : List (Nat × Nat)) (bad : List Nat) (eA eB : Env) (A B : Mem) : Option Mem :=
  bif (Nat.beq eA.n eB.n && (Nat.ble lim (64 * A.next) && Nat.ble lo lim)) && simG lim eA.gs eB.gs then
    bif sigOk lim (64 * A.next) σ then bif eqT lim σ eA.t eB.t then bif eqBl lim σ B.bl (sel (keptB lim σ gl bad) A.bl) then
      some ⟨A.next, lo, sel (keptB lim σ gl bad) A.bl ++ gl, gl, sel (keptO lim σ A.ob B.ob) A.ob⟩
    else none else none else none
  else none
def simE (lim lo : Nat) (gl : List (Nat × List Value)) (eA eB : Env) (A B : Mem) : Option Mem :=
  forceL (discB lim A.bl B.bl A.ob B.ob 1000 (discM lim B.ob A.ob (discO lim gl B.bl A.bl (discT lim eA.t eB.t []))) []) fun σ => forceL (badB lim σ B.bl (sel (keptB lim σ gl []) A.bl)) fun bad => simσ lim lo gl σ bad eA eB A B

/-- What is known where a region stands. -/
structure SR (St : List (Nat × List Value)) (r0 : Nat → Option (Nat × Nat)) (M0 : Mem) (w0 : World) (env : Env) (M : Mem) (r : Nat → Option (Nat × Nat)) (tmps : Array Value) (w : World) : Prop where
  er : ER r env tmps
  mr : MR r M w
  stp : Stp r0 M0 w0 r M w
  apart : ∀ i cs g, look M.bl i = some cs → r i = some g → look St i = none → ∀ j ds h, look St j = some ds → r0 j = some h → h.1 ≠ g.1
theorem simσ_some {lim lo : Nat} {gl : List (Nat × List Value)} {σ : List (Nat × Nat)} {bad : List Nat} {eA eB : Env} {A B C : Mem} (h : simσ lim lo gl σ bad eA eB A B = some C) :
    ((eA.n = eB.n ∧ lim ≤ 64 * A.next ∧ lo ≤ lim) ∧ (eA.gs = eB.gs ∧ ∀ g ∈ eA.gs, 64 * g < lim)) ∧ sigOk lim (64 * A.next) σ = true ∧ eqT lim σ eA.t eB.t = true ∧ eqBl lim σ B.bl (sel (keptB lim σ gl bad) A.bl) = true ∧
      C = ⟨A.next, lo, sel (keptB lim σ gl bad) A.bl ++ gl, gl, sel (keptO lim σ A.ob B.ob) A.ob⟩ := by
  unfold simσ at h
  generalize hc : ((Nat.beq eA.n eB.n && (Nat.ble lim (64 * A.next) && Nat.ble lo lim)) && simG lim eA.gs eB.gs) = c at h
  cases c with
  | false => cases h
  | true =>
    simp only [cond_true] at h
    simp only [Bool.and_eq_true] at hc
    obtain ⟨⟨h1, h2, h3⟩, h4⟩ := hc
    unfold simG at h4
    simp only [Bool.and_eq_true, List.all_eq_true] at h4
    cases q1 : sigOk lim (64 * A.next) σ with
    | false => rw [q1] at h; cases h
    | true =>
      rw [q1] at h
      cases q2 : eqT lim σ eA.t eB.t with
      | false => rw [q2] at h; cases h
      | true =>
        rw [q2] at h
        cases q3 : eqBl lim σ B.bl (sel (keptB lim σ gl bad) A.bl) with
        | false => rw [q3] at h; cases h
        | true =>
          rw [q3] at h
          cases h
          exact ⟨⟨⟨Nat.eq_of_beq_eq_true h1, Nat.le_of_ble_eq_true h2, Nat.le_of_ble_eq_true h3⟩, ⟨beqN_eq h4.1, fun g hg => Nat.le_of_ble_eq_true (h4.2 g hg)⟩⟩, rfl, rfl, rfl, rfl⟩
section
variable {St : List (Nat × List Value)} {r0 : Nat → Option (Nat × Nat)} {M0 : Mem} {w0 : World} {eA eB : Env} {A B C : Mem} {r : Nat → Option (Nat × Nat)} {tmps : Array Value} {w : World} {σ : List (Nat × Nat)} {bad : List Nat}
theorem sim_left (h : simσ (64 * M0.next) M0.lo M0.gl σ bad eA eB A B = some C) (hs : SR St r0 M0 w0 eA A r tmps w) : SR St r0 M0 w0 eA C r tmps w := by
  obtain ⟨⟨⟨e1, e2, e3⟩, e4⟩, _, _, _, rfl⟩ := simσ_some h
  have hgl := hs.stp.gl
  have hlo := hs.stp.lo
  have sub : ∀ i cs, look (sel (keptB (64 * M0.next) σ M0.gl bad) A.bl ++ M0.gl) i = some cs → look A.bl i = some cs := fun i cs hl => by
    rw [look_append] at hl
    cases hb : look (sel (keptB (64 * M0.next) σ M0.gl bad) A.bl) i with
    | some c => rw [hb] at hl; cases hl; exact (look_sel_some hb).2
    | none =>
      rw [hb] at hl
      exact (hs.mr.glob i cs (by rw [hgl]; exact hl)).2.1
  refine ⟨hs.er, ⟨fun i cs hl => hs.mr.blk i cs (sub i cs hl), fun i j cs ds g g' h1 h2 => hs.mr.inj i j cs ds g g' (sub _ _ h1) (sub _ _ h2), hs.mr.bound, fun i cs hl => ?_, fun i o hl => hs.mr.obj i o (keptO_some hl).1, fun i j o p g g' h1 h2 => hs.mr.injO i j o p g g' (keptO_some h1).1 (keptO_some h2).1⟩,
    ⟨hs.stp.ext, rfl, hs.stp.next, fun i cs hl hi => hs.stp.old i cs (sub _ _ hl) hi, hs.stp.os, hs.stp.tape, hs.stp.output, hs.stp.size, hs.stp.keep, fun i cs g h1 h2 h3 h4 => hs.stp.anc i cs g (by rw [hlo]; exact h1) (sub _ _ h2) h3 h4, rfl, fun i o g hl => hs.stp.ancO i o g (keptO_some hl).1⟩, fun i cs g hl => hs.apart i cs g (sub _ _ hl)⟩
  have := hs.mr.glob i cs (by rw [hgl]; exact hl)
  refine ⟨by rw [← hlo]; exact this.1, ?_, this.2.2⟩
  rw [look_append, look_sel]
  have : keptB (64 * M0.next) σ M0.gl bad i = false := by unfold keptB; rw [hl]
  rw [this]
  simpa using hl
theorem sim_right (hM0 : MR r0 M0 w0) (hSt : ∀ i cs, look St i = some cs → look M0.bl i = some cs) (h : simσ (64 * M0.next) M0.lo M0.gl σ bad eA eB A B = some C) (hs : SR St r0 M0 w0 eB B r tmps w) : SR St r0 M0 w0 eA C (rn (64 * M0.next) σ r) tmps w := by
  obtain ⟨⟨⟨e1, e2, e3⟩, ⟨e4, e4'⟩⟩, s1, s2, s3, rfl⟩ := simσ_some h
  have hgl := hs.stp.gl
  have hlo := hs.stp.lo
  have old : ∀ i, i < 64 * M0.next → rn (64 * M0.next) σ r i = r i := fun i hi => rn_of (oth_old hi)
  have rel := fun (x y v : Value) => eqV_rel (lim := 64 * M0.next) (σ := σ) (rA := rn (64 * M0.next) σ r) (rB := r) (fun i j hij => rn_of (nm_oth hij)) 6 x y v
  -- each block there is one of the other's
  have that : ∀ i cs, look (sel (keptB (64 * M0.next) σ M0.gl bad) A.bl ++ M0.gl) i = some cs → ∃ k ds, oth (64 * M0.next) σ i = some k ∧ look B.bl k = some ds ∧ i % 64 = k % 64 ∧ ∀ (j : Nat) v, cs[j]? = some v → ∃ u, ds[j]? = some u ∧ ∀ v', VR r u v' → VR (rn (64 * M0.next) σ r) v v' := fun i cs hl => by
    rw [look_append] at hl
    cases hb : look (sel (keptB (64 * M0.next) σ M0.gl bad) A.bl) i with
    | some c =>
      rw [hb] at hl; cases hl
      obtain ⟨k, ds, k1, k2, k3, k4⟩ := eqBl_look s3 i _ hb
      exact ⟨k, ds, k1, k2, k3, fun j v hv => by obtain ⟨u, q1, q2⟩ := k4 j v hv; exact ⟨u, q1, fun v' => rel v u v' q2⟩⟩
    | none =>
      rw [hb] at hl
      obtain ⟨k1, k2, k3, k4⟩ := hs.mr.glob i cs (by rw [hgl]; exact hl)
      refine ⟨i, cs, oth_old (by omega), k2, rfl, fun j v hv => ⟨v, hv, fun v' hv' => ?_⟩⟩
      have ha : af 1 v = true := List.all_eq_true.1 k4 v (List.mem_of_getElem? hv)
      rw [hv'.eq ha]
      exact .same 1 _ ha
  have inj : ∀ i j k, oth (64 * M0.next) σ i = some k → oth (64 * M0.next) σ j = some k → i = j := fun i j k h1 h2 => by
    rcases oth_new h1 with ⟨q1, q2⟩ | ⟨q1, q2⟩ <;> rcases oth_new h2 with ⟨u1, u2⟩ | ⟨u1, u2⟩
    · omega
    · have := (sigOk_at s1 _ _ u2).2.1; omega
    · have := (sigOk_at s1 _ _ q2).2.1; omega
    · exact (sigOk_at s1 _ _ u2).2.2 _ q2
  have low : ∀ i k, oth (64 * M0.next) σ i = some k → M0.lo ≤ i → M0.lo ≤ k := fun i k h1 h2 => by
    rcases oth_new h1 with ⟨q1, q2⟩ | ⟨q1, q2⟩
    · omega
    · have := (sigOk_at s1 _ _ q2).2.1; omega
  refine ⟨⟨by rw [hs.er.1, e1], fun i => ?_, fun g hg => ?_⟩, ⟨fun i cs hl => ?_, fun i j cs ds g g' h1 h2 h3 h4 e => ?_, fun i g hi => ?_, fun i cs hl => ?_, fun i o hl => ?_, fun i j o p g g' h1 h2 h3 h4 e => ?_⟩,
    ⟨fun i g hi => ?_, rfl, by simp only; omega, fun i cs hl hi => ?_, hs.stp.os, hs.stp.tape, hs.stp.output, hs.stp.size, hs.stp.keep, fun i cs g h1 h2 h3 h4 => ?_, rfl, fun i o g hl hi hg => ?_⟩, fun i cs g hl hi hn j ds k hj hk => ?_⟩
  · have hv := hs.er.2 i
    rcases eqT_get s2 (pathOf i) with ⟨q1, q2⟩ | q
    · unfold Env.get at hv ⊢
      rw [q1]
      rw [q2] at hv
      rw [hv.eq (k := 1) rfl]
      exact .undef _
    · exact rel _ _ _ q hv
  · obtain ⟨s, hg'⟩ := hs.er.3 g (by rw [← e4]; exact hg)
    exact ⟨s, by rw [old _ (e4' g hg)]; exact hg'⟩
  · obtain ⟨k, ds, k1, k2, k3, k4⟩ := that i cs hl
    obtain ⟨g, t, cc, q1, q2, q3, q4⟩ := hs.mr.blk k ds k2
    refine ⟨g, t, cc, by rw [rn_of k1]; exact q1, q2, by rw [k3]; exact q3, fun j v hv => ?_⟩
    obtain ⟨u, p1, p2⟩ := k4 j v hv
    obtain ⟨v', p3, p4⟩ := q4 j u p1
    exact ⟨v', p3, p2 v' p4⟩
  · obtain ⟨k, _, k1, k2, _⟩ := that i cs h1
    obtain ⟨m, _, m1, m2, _⟩ := that j ds h2
    rw [rn_of k1] at h3
    rw [rn_of m1] at h4
    have := hs.mr.inj k m _ _ _ _ k2 m2 h3 h4 e
    subst this
    exact inj i j k k1 m1
  · unfold rn at hi
    cases ho : oth (64 * M0.next) σ i with
    | none => rw [ho] at hi; cases hi
    | some k =>
      rcases oth_new ho with ⟨q1, q2⟩ | ⟨q1, q2⟩
      · show i < 64 * A.next; omega
      · exact (sigOk_at s1 _ _ q2).1
  · obtain ⟨k1, k2, ⟨s, k3⟩, k4⟩ := hs.mr.glob i cs (by rw [hgl]; exact hl)
    refine ⟨by rw [← hlo]; exact k1, ?_, ⟨s, by rw [old i (by omega)]; exact k3⟩, k4⟩
    rw [look_append, look_sel]
    have : keptB (64 * M0.next) σ M0.gl bad i = false := by unfold keptB; rw [hl]
    rw [this]
    simpa using hl
  · obtain ⟨_, es, k, fs, rfl, k2, k3, k4⟩ := keptO_some hl
    obtain ⟨g, x, q1, q2, ents, clock, rfl, q3⟩ := hs.mr.obj k _ k3
    exact ⟨g, _, by rw [rn_of k2]; exact q1, q2, ents, clock, rfl, eqEs_rel rel k4 q3⟩
  · obtain ⟨_, es, k, fs, rfl, k2, k3, k4⟩ := keptO_some h1
    obtain ⟨_, es', m, fs', rfl, m2, m3, m4⟩ := keptO_some h2
    rw [rn_of k2] at h3
    rw [rn_of m2] at h4
    have := hs.mr.injO k m _ _ _ _ k3 m3 h3 h4 e
    subst this
    exact inj i j k k2 m2
  · rw [old i (hM0.bound i g hi)]
    exact hs.stp.ext i g hi
  · obtain ⟨k, ds, k1, k2, _⟩ := that i cs hl
    rw [oth_old hi] at k1; cases k1
    exact hs.stp.old i ds k2 hi
  · obtain ⟨k, ds, k1, k2, _⟩ := that i cs h2
    rw [rn_of k1] at h3
    exact hs.stp.anc k ds g (by rw [hlo]; exact low i k k1 h1) k2 h3 h4
  · obtain ⟨_, es, k, fs, rfl, k2, k3, k4⟩ := keptO_some hl
    rw [rn_of k2] at hi
    exact hs.stp.ancO k _ g k3 hi hg
  · obtain ⟨m, es, m1, m2, _⟩ := that i cs hl
    rw [rn_of m1] at hi
    refine hs.apart m es g m2 hi ?_ j ds k hj hk
    rcases oth_new m1 with ⟨q1, q2⟩ | ⟨q1, q2⟩
    · rw [q2]; exact hn
    · cases hst : look St m with
      | none => rfl
      | some x =>
        obtain ⟨g', _, _, k1, _⟩ := hM0.blk m x (hSt m x hst)
        have := hM0.bound m g' k1
        have := (sigOk_at s1 _ _ q2).2.1
        omega
end
end Ev
end Go.Proofs.YtccjmmdppjialaaGreatDoor
