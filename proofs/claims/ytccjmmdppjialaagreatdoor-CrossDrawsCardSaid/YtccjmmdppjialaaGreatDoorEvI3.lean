/- The evaluator, I3: a table of closed calls that are known; what a call sees. -/
import Derived.Test.YtccjmmdppjialaaGreatDoorEvI2
namespace Go.Proofs.YtccjmmdppjialaaGreatDoor
open Go.RowKit
namespace Ev

/-- The tables of the program: what is known of package-level variables. -/
def GL (G : List (Nat × List Value)) (w : World) : Prop := ∀ i cs, look G i = some cs → ∃ t cc, w.heap[i / 64]? = some (.cells cc t (0, 0)) ∧ ∀ (j : Nat) v, cs[j]? = some v → cc[j]? = some v
theorem MR.gl {r : Nat → Option (Nat × Nat)} {M : Mem} {w : World} (h : MR r M w) : GL M.gl w := fun i cs hl => by
  obtain ⟨_, h1, ⟨s, h2⟩, h3⟩ := h.glob i cs hl
  obtain ⟨g, t, cc, h4, h5, _, h6⟩ := h.blk i cs h1
  rw [h2] at h4; cases h4
  refine ⟨t, cc, h5, fun j v hv => ?_⟩
  obtain ⟨v', h7, h8⟩ := h6 j v hv
  have := h8.eq (k := 1) (List.all_eq_true.1 h3 v (List.mem_of_getElem? hv))
  subst this
  exact h7

/-! ### A table of closed calls that are known. -/
abbrev KTab := List (FuncId × List Value × Value)
/-- A call in a state of memory, and what it gives. -/
structure KC where
  f : FuncId
  xs : List Value
  next : Nat
  lo : Nat
  bl : List (Nat × List Value)
  v : Value
  next' : Nat
  bl' : List (Nat × List Value)
  ob : List (Nat × AOb)
  ob' : List (Nat × AOb)
/-- Lists, each under what a number's last binary digits say. -/
inductive HT (α : Type) where
  | e
  | bk (l : List α)
  | nd (l r : HT α)
def HT.get {α : Type} : Nat → Nat → HT α → List α
  | 0, _, t => match t with
    | .bk l => l
    | _ => []
  | d + 1, h, t => match t with
    | .nd l r => bif Nat.beq (h % 2) 0 then forceN (h / 2) fun h => HT.get d h l else forceN (h / 2) fun h => HT.get d h r
    | _ => []
def HT.put {α : Type} (x : α) : Nat → Nat → HT α → HT α
  | 0, _, t => match t with
    | .bk l => .bk (x :: l)
    | _ => .bk [x]
  | d + 1, h, t => match t with
    | .nd l r => bif Nat.beq (h % 2) 0 then .nd (HT.put x d (h / 2) l) r else .nd l (HT.put x d (h / 2) r)
    | _ => bif Nat.beq (h % 2) 0 then .nd (HT.put x d (h / 2) .e) .e else .nd .e (HT.put x d (h / 2) .e)
def HT.Has {α : Type} (x : α) : HT α → Prop
  | .e => False
  | .bk l => x ∈ l
  | .nd l r => l.Has x ∨ r.Has x
theorem HT.get_has {α : Type} {x : α} : ∀ (d h : Nat) (t : HT α), x ∈ HT.get d h t → t.Has x
  | 0, _, t, hx => by
    cases t with
    | bk l => exact hx
    | e => cases hx
    | nd l r => cases hx
  | d + 1, h, t, hx => by
    cases t with
    | nd l r =>
      simp only [HT.get, forceN_eq] at hx
      cases hb : Nat.beq (h % 2) 0 with
      | true => rw [hb] at hx; exact .inl (HT.get_has d _ l hx)
      | false => rw [hb] at hx; exact .inr (HT.get_has d _ r hx)
    | e => cases hx
    | bk l => cases hx
theorem HT.put_has {α : Type} {x y : α} : ∀ (d h : Nat) (t : HT α), (HT.put x d h t).Has y → y = x ∨ t.Has y
  | 0, _, t, hy => by
    cases t with
    | bk l => exact List.mem_cons.1 hy
    | e => exact .inl (List.mem_singleton.1 hy)
    | nd l r => exact .inl (List.mem_singleton.1 hy)
  | d + 1, h, t, hy => by
    have new : (HT.put x d (h / 2) .e).Has y → y = x := fun k => (HT.put_has d _ _ k).resolve_right id
    cases t with
    | nd l r =>
      simp only [HT.put] at hy
      cases hb : Nat.beq (h % 2) 0 with
      | true =>
        rw [hb] at hy
        rcases hy with k | k
        · exact (HT.put_has d _ l k).imp id .inl
        · exact .inr (.inr k)
      | false =>
        rw [hb] at hy
        rcases hy with k | k
        · exact .inr (.inl k)
        · exact (HT.put_has d _ r k).imp id .inr
    | e =>
      simp only [HT.put] at hy
      cases hb : Nat.beq (h % 2) 0 with
      | true => rw [hb] at hy; exact .inl (new (hy.resolve_right id))
      | false => rw [hb] at hy; exact .inl (new (hy.resolve_left id))
    | bk l =>
      simp only [HT.put] at hy
      cases hb : Nat.beq (h % 2) 0 with
      | true => rw [hb] at hy; exact .inl (new (hy.resolve_right id))
      | false => rw [hb] at hy; exact .inl (new (hy.resolve_left id))
def hashL (f : Value → Nat) : List Value → Nat → Nat
  | [], acc => acc
  | x :: xs, acc => forceN ((acc * 31 + f x) % 65521) fun acc => hashL f xs acc
def hashB : Nat → List UInt8 → Nat → Nat
  | 0, _, acc => acc
  | _ + 1, [], acc => acc
  | n + 1, b :: l, acc => forceN ((acc * 31 + b.toNat) % 65521) fun acc => hashB n l acc
def hashV : Nat → Value → Nat
  | 0, _ => 1
  | n + 1, v => match v with
    | .int _ m => (match m with
      | .ofNat k => k % 65521 + 2
      | .negSucc k => k % 65521 + 3)
    | .bool b => bif b then 5 else 7
    | .string s => hashB 24 s.data.toList 9
    | .agg xs => hashL (hashV n) xs.toList 11
    | .tuple xs => hashL (hashV n) xs.toList 12
    | .func (.func f) xs _ => hashL (hashV n) xs.toList f
    | .iface t u => t + hashV n u
    | _ => 13
def hashA (f : FuncId) (xs : List Value) : Nat := hashL (hashV 4) xs (f + 17)
/-- What a row looks like, wherever its addresses lead. -/
def hashX : Nat → Value → Nat
  | 0, _ => 1
  | n + 1, v => match v with
    | .int _ m => (match m with
      | .ofNat k => k % 65521 + 2
      | .negSucc k => k % 65521 + 3)
    | .bool b => bif b then 5 else 7
    | .string s => hashB 24 s.data.toList 9
    | .slice _ l c => l * 5 + c + 3
    | .pointer a => (match a with
      | some a => a.off + 17
      | none => 19)
    | .agg xs => hashL (hashX n) xs.toList 11
    | .tuple xs => hashL (hashX n) xs.toList 12
    | .func (.func f) xs us => hashL (hashX n) us.toList (hashL (hashX n) xs.toList f)
    | .iface t u => t + hashX n u
    | _ => 13
def hashF (f : FuncId) (xs : List Value) : Nat := hashL (hashX 4) xs (f + 17)
/-- .. and the first cell of each block. -/
def hashH : List (Nat × List Value) → Nat → Nat
  | [], acc => acc
  | p :: l, acc => match p.2 with
    | [] => hashH l acc
    | v :: _ => forceN ((acc * 31 + hashX 4 v) % 65521) fun acc => hashH l acc
structure Tab where
  k : HT (FuncId × List Value × Value)
  c : HT KC
def Tab.putK (T : Tab) (q : FuncId × List Value × Value) : Tab := ⟨T.k.put q 8 (hashA q.1 q.2.1), T.c⟩
def Tab.putC (T : Tab) (q : KC) : Tab := ⟨T.k, T.c.put q 10 (hashH q.bl (hashF q.f q.xs))⟩
def beqL (p : Value → Value → Bool) : List Value → List Value → Bool
  | [], [] => true
  | x :: xs, y :: ys => p x y && beqL p xs ys
  | _, _ => false
def beqI : Int → Int → Bool
  | .ofNat a, .ofNat b => Nat.beq a b
  | .negSucc a, .negSucc b => Nat.beq a b
  | _, _ => false
theorem beqI_eq : ∀ {a b : Int}, beqI a b = true → a = b
  | .ofNat a, .ofNat b, h => by rw [Nat.eq_of_beq_eq_true h]
  | .negSucc a, .negSucc b, h => by rw [Nat.eq_of_beq_eq_true h]
  | .ofNat _, .negSucc _, h => by cases h
  | .negSucc _, .ofNat _, h => by cases h
def beqU : List UInt8 → List UInt8 → Bool
  | [], [] => true
  | a :: x, b :: y => bif Nat.beq a.toNat b.toNat then beqU x y else false
  | _, _ => false
theorem beqU_eq : ∀ {x y : List UInt8}, beqU x y = true → x = y
  | [], [], _ => rfl
  | [], _ :: _, h => by cases h
  | _ :: _, [], h => by cases h
  | a :: x, b :: y, h => by
    simp only [beqU] at h
    cases hb : Nat.beq a.toNat b.toNat with
    | false => rw [hb] at h; cases h
    | true =>
      rw [hb] at h
      rw [UInt8.toNat_inj.1 (Nat.eq_of_beq_eq_true hb), beqU_eq h]
def beqV : Nat → Value → Value → Bool
  | 0, _, _ => false
  | n + 1, x, y => match x, y with
    | .bool a, .bool b => Bool.decEq a b |>.decide
    | .int k a, .int l b => beqI a b && decide (k = l)
    | .string a, .string b => beqU a.data.toList b.data.toList
    | .pointer a, .pointer b => decide (a = b)
    | .slice a k c, .slice b m d => decide (a = b) && (Nat.beq k m && Nat.beq c d)
    | .map a, .map b => decide (a = b)
    | .nilFunc, .nilFunc => true
    | .nilIface, .nilIface => true
    | .agg a, .agg b => beqL (beqV n) a.toList b.toList
    | .tuple a, .tuple b => beqL (beqV n) a.toList b.toList
    | .func f a b, .func g c d => decide (f = g) && (beqL (beqV n) a.toList c.toList && beqL (beqV n) b.toList d.toList)
    | .iface t a, .iface u b => Nat.beq t u && beqV n a b
    | _, _ => false
theorem beqL_eq {p : Value → Value → Bool} (hp : ∀ x y, p x y = true → x = y) : ∀ {xs ys : List Value}, beqL p xs ys = true → xs = ys
  | [], [], _ => rfl
  | [], _ :: _, h => by cases h
  | _ :: _, [], h => by cases h
  | x :: xs, y :: ys, h => by
    simp only [beqL, Bool.and_eq_true] at h
    rw [hp x y h.1, beqL_eq hp h.2]
theorem beqV_eq : ∀ (n : Nat) (x y : Value), beqV n x y = true → x = y
  | 0, _, _, h => by cases h
  | n + 1, x, y, h => by
    have hl : ∀ {xs ys : Array Value}, beqL (beqV n) xs.toList ys.toList = true → xs = ys := fun h => Array.ext' (beqL_eq (beqV_eq n) h)
    unfold beqV at h
    split at h
    · rw [of_decide_eq_true h]
    · simp only [Bool.and_eq_true, decide_eq_true_eq] at h; rw [beqI_eq h.1, h.2]
    · rename_i a b
      obtain ⟨⟨a⟩⟩ := a
      obtain ⟨⟨b⟩⟩ := b
      rw [show a = b from beqU_eq h]
    · rw [of_decide_eq_true h]
    · simp only [Bool.and_eq_true, decide_eq_true_eq] at h; rw [h.1, Nat.eq_of_beq_eq_true h.2.1, Nat.eq_of_beq_eq_true h.2.2]
    · rw [of_decide_eq_true h]
    · rfl
    · rfl
    · rw [hl h]
    · rw [hl h]
    · simp only [Bool.and_eq_true, decide_eq_true_eq] at h; rw [h.1, hl h.2.1, hl h.2.2]
    · simp only [Bool.and_eq_true] at h; rw [Nat.eq_of_beq_eq_true h.1, beqV_eq n _ _ h.2]
    · cases h
def beqB : List (Nat × List Value) → List (Nat × List Value) → Bool
  | [], [] => true
  | p :: ps, q :: qs => Nat.beq p.1 q.1 && (beqL (beqV 6) p.2 q.2 && beqB ps qs)
  | _, _ => false
theorem beqB_eq : ∀ {ps qs : List (Nat × List Value)}, beqB ps qs = true → ps = qs
  | [], [], _ => rfl
  | [], _ :: _, h => by cases h
  | _ :: _, [], h => by cases h
  | (i, c) :: ps, (j, d) :: qs, h => by
    simp only [beqB, Bool.and_eq_true] at h
    rw [Nat.eq_of_beq_eq_true h.1, beqL_eq (beqV_eq 6) h.2.1, beqB_eq h.2.2]
def nilL {α : Type} : List α → Bool
  | [] => true
  | _ => false
theorem nilL_eq {α : Type} : ∀ {x : List α}, nilL x = true → x = []
  | [], _ => rfl
  | _ :: _, h => by cases h
def lookT : KTab → FuncId → List Value → Option Value
  | [], _, _ => none
  | q :: T, f, xs => bif Nat.beq q.1 f && beqL (beqV 6) q.2.1 xs then some q.2.2 else lookT T f xs
def Known (P : Program) (G : List (Nat × List Value)) (q : FuncId × List Value × Value) : Prop := q.2.1.all (af 4) = true ∧ af 4 q.2.2 = true ∧ ∀ w, GL G w → Calls P q.1 q.2.1.toArray w fun e w' => e = .returned q.2.2 ∧ Below w.heap.size w w'
def KTOk (P : Program) (G : List (Nat × List Value)) (T : KTab) : Prop := ∀ q ∈ T, Known P G q
def KC.mem (G : List (Nat × List Value)) (q : KC) : Mem := ⟨q.next, q.lo, q.bl ++ G, G, q.ob⟩
def KC.mem' (G : List (Nat × List Value)) (q : KC) : Mem := ⟨q.next', q.lo, q.bl' ++ G, G, q.ob'⟩
def KnownC (P : Program) (G : List (Nat × List Value)) (q : KC) : Prop := ∀ (r : Nat → Option (Nat × Nat)) (ys : List Value) (w : World), LR r q.xs ys → MR r (q.mem G) w → Calls P q.f ys.toArray w (Gives r (q.mem G) w (.ret q.v (q.mem' G)))
def TOk (P : Program) (G : List (Nat × List Value)) (T : Tab) : Prop := (∀ q, T.k.Has q → Known P G q) ∧ ∀ q, T.c.Has q → KnownC P G q
def beqEs : List (Value × Value) → List (Value × Value) → Bool
  | [], [] => true
  | p :: ps, q :: qs => beqV 6 p.1 q.1 && (beqV 6 p.2 q.2 && beqEs ps qs)
  | _, _ => false
theorem beqEs_eq : ∀ {ps qs : List (Value × Value)}, beqEs ps qs = true → ps = qs
  | [], [], _ => rfl
  | [], _ :: _, h => by cases h
  | _ :: _, [], h => by cases h
  | (a, b) :: ps, (c, d) :: qs, h => by
    simp only [beqEs, Bool.and_eq_true] at h
    rw [beqV_eq 6 _ _ h.1, beqV_eq 6 _ _ h.2.1, beqEs_eq h.2.2]
def beqO : List (Nat × AOb) → List (Nat × AOb) → Bool
  | [], [] => true
  | (i, .map es) :: r, (j, .map fs) :: s => Nat.beq i j && (beqEs es fs && beqO r s)
  | _, _ => false
theorem beqO_eq : ∀ {x y : List (Nat × AOb)}, beqO x y = true → x = y
  | [], y, h => by
    cases y with
    | nil => rfl
    | cons q s => cases h
  | (i, o) :: r, y, h => by
    cases o with
    | map es =>
      cases y with
      | nil => cases h
      | cons q s =>
        obtain ⟨j, p⟩ := q
        cases p with
        | map fs =>
          simp only [beqO, Bool.and_eq_true] at h
          rw [Nat.eq_of_beq_eq_true h.1, beqEs_eq h.2.1, beqO_eq h.2.2]
        | _ => cases h
    | _ => cases y <;> cases h
theorem lookT_sound {P : Program} {G : List (Nat × List Value)} : ∀ {T : KTab} {f : FuncId} {xs : List Value} {v : Value}, KTOk P G T → lookT T f xs = some v → Known P G (f, xs, v)
  | [], _, _, _, _, h => by cases h
  | q :: T, f, xs, v, hT, h => by
    simp only [lookT] at h
    generalize hb : (Nat.beq q.1 f && beqL (beqV 6) q.2.1 xs) = b at h
    cases b with
    | false => exact lookT_sound (fun p hp => hT p (List.mem_cons_of_mem _ hp)) h
    | true =>
      cases h
      simp only [Bool.and_eq_true] at hb
      have e1 := Nat.eq_of_beq_eq_true hb.1
      have e2 := beqL_eq (beqV_eq 6) hb.2
      obtain ⟨g, ys, u⟩ := q
      simp only at e1 e2
      subst e1; subst e2
      exact hT _ List.mem_cons_self
theorem same_rel {r : Nat → Option (Nat × Nat)} {M : Mem} {w w' : World} (hM : MR r M w) (h : Below w.heap.size w w') : MR r M w' ∧ Stp r M w r M w' := by
  refine ⟨⟨fun i cs hl => ?_, hM.inj, hM.bound, hM.glob, fun i o hl => ?_, hM.injO⟩, ⟨fun _ _ h => h, rfl, Nat.le_refl _, fun _ cs h _ => ⟨cs, h⟩, h.os, h.tape, h.output, h.size, fun k hk _ _ => h.block k hk, fun i cs g h1 h2 h3 _ => ⟨i, cs, g, h1, h2, h3, rfl⟩, rfl, fun i o g h1 h2 _ => ⟨i, o, g, h1, h2, rfl⟩⟩⟩
  · obtain ⟨g, t, cc, h1, h2, h3⟩ := hM.blk i cs hl
    exact ⟨g, t, cc, h1, by rw [h.block g.1 (hM.lt hl h1)]; exact h2, h3⟩
  · obtain ⟨g, x, h1, h2, h3⟩ := hM.obj i o hl
    exact ⟨g, x, h1, by rw [h.block g.1 (hM.ltO hl h1)]; exact h2, h3⟩

/-! ### Some of the blocks, the maps of the objects: what is out of sight stays as it is. -/
def sel {α : Type} (p : Nat → Bool) : List (Nat × α) → List (Nat × α)
  | [] => []
  | (i, c) :: r => bif p i then (i, c) :: sel p r else sel p r
theorem look_sel {α : Type} (p : Nat → Bool) : ∀ (l : List (Nat × α)) (i : Nat), look (sel p l) i = bif p i then look l i else none
  | [], i => by cases p i <;> rfl
  | (j, c) :: r, i => by
    simp only [sel]
    by_cases e : j = i
    · subst e
      cases h : p j with
      | true => simp [look_cons]
      | false => simp [look_sel p r j, h]
    · cases h : p j with
      | true => simp only [cond_true, look_cons, if_neg e, look_sel p r i]
      | false => simp only [cond_false, look_cons, if_neg e, look_sel p r i]
theorem look_sel_some {α : Type} {p : Nat → Bool} {l : List (Nat × α)} {i : Nat} {c : α} (h : look (sel p l) i = some c) : p i = true ∧ look l i = some c := by
  rw [look_sel] at h
  cases hp : p i with
  | true => rw [hp] at h; exact ⟨rfl, h⟩
  | false => rw [hp] at h; cases h

/-- An operation that sees only some of the blocks leaves the others as they are. -/
theorem hide_sound {r r' : Nat → Option (Nat × Nat)} {M M' : Mem} {w w' : World} {p : Nat → Bool} (hM : MR r M w) (hlo : M.lo ≤ 64 * M.next) (h2 : MR r' M' w') (h3 : Stp r { M with bl := sel p M.bl } w r' M' w') :
    MR r' { M' with bl := M'.bl ++ sel (fun i => !p i) M.bl } w' ∧ Stp r M w r' { M' with bl := M'.bl ++ sel (fun i => !p i) M.bl } w' := by
  -- what is hidden
  have hid : ∀ {i cs}, look (sel (fun i => !p i) M.bl) i = some cs → p i = false ∧ look M.bl i = some cs := fun h => by
    obtain ⟨h1, h2⟩ := look_sel_some h
    exact ⟨by simpa using h1, h2⟩
  have split' : ∀ {i cs}, look (M'.bl ++ sel (fun i => !p i) M.bl) i = some cs → look M'.bl i = some cs ∨ (p i = false ∧ look M.bl i = some cs) := fun {i cs} h => by
    rw [look_append] at h
    cases hl : look M'.bl i with
    | some c => rw [hl] at h; exact .inl h
    | none => rw [hl] at h; exact .inr (hid h)
  -- an old block behind one that is there now
  have back : ∀ {i cs g}, look M'.bl i = some cs → r' i = some g → g.1 < w.heap.size → ∃ j ds h, p j = true ∧ look M.bl j = some ds ∧ r j = some h ∧ h.1 = g.1 := fun {i cs g} hl hi hg => by
    rcases Nat.lt_or_ge i (64 * M.next) with q | q
    · obtain ⟨ds, k1⟩ := h3.old i cs hl q
      obtain ⟨k2, k3⟩ := look_sel_some k1
      obtain ⟨g', _, _, k4, _⟩ := hM.blk i ds k3
      have k5 := h3.ext _ _ k4
      rw [hi] at k5; cases k5
      exact ⟨i, ds, g, k2, k3, k4, rfl⟩
    · obtain ⟨j, ds, h, k1, k2, k3, k4⟩ := h3.anc i cs g (by rw [h3.lo]; exact Nat.le_trans hlo q) hl hi hg
      obtain ⟨k5, k6⟩ := look_sel_some k2
      exact ⟨j, ds, h, k5, k6, k3, k4⟩
  have far : ∀ {i cs j ds g h}, look M'.bl i = some cs → r' i = some g → p j = false → look M.bl j = some ds → r j = some h → g.1 = h.1 → False := fun {i cs j ds g h} h1 h4 h5 h6 h7 e => by
    obtain ⟨k, es, f, k1, k2, k3, k4⟩ := back h1 h4 (by rw [e]; exact hM.lt h6 h7)
    have := hM.inj k j es ds f h k2 h6 k3 h7 (k4.trans e)
    subst this
    rw [k1] at h5; cases h5
  have same : ∀ {i cs g}, p i = false → look M.bl i = some cs → r i = some g → w'.heap[g.1]? = w.heap[g.1]? := fun {i cs g} h1 h4 h5 => by
    refine h3.keep g.1 (hM.lt h4 h5) (fun j ds h _ k1 k2 e => ?_) fun j o h k1 k2 e => ?_
    · obtain ⟨k3, k4⟩ := look_sel_some k1
      have := hM.inj j i ds cs h g k4 h4 k2 h5 e
      subst this
      rw [k3] at h1; cases h1
    · obtain ⟨g', t, cc, q1, q2, _⟩ := hM.blk i cs h4
      rw [h5] at q1; cases q1
      obtain ⟨h', x, q3, q4, q5⟩ := hM.obj j o k1
      rw [k2] at q3; cases q3
      rw [e, q2] at q4; cases q4
      exact q5.not_cells
  refine ⟨⟨fun i cs hl => ?_, fun i j cs ds g h h1 h4 h5 h6 e => ?_, h2.bound, fun i cs hl => ⟨(h2.glob i cs hl).1, ?_, (h2.glob i cs hl).2.2⟩, h2.obj, h2.injO⟩, ⟨h3.ext, h3.lo, h3.next, fun i cs hl hi => ?_, h3.os, h3.tape, h3.output, h3.size, fun k hk h4 h5 => ?_, fun i cs g hl hs hi hg => ?_, h3.gl, h3.ancO⟩⟩
  · rcases split' hl with h | ⟨h, h4⟩
    · exact h2.blk i cs h
    · obtain ⟨g, t, cc, k1, k2, k3, k4⟩ := hM.blk i cs h4
      exact ⟨g, t, cc, h3.ext _ _ k1, by rw [same h h4 k1]; exact k2, k3, fun j v hv => by obtain ⟨v', q1, q2⟩ := k4 j v hv; exact ⟨v', q1, q2.mono h3.ext⟩⟩
  · rcases split' h1 with q | ⟨q, q'⟩ <;> rcases split' h4 with u | ⟨u, u'⟩
    · exact h2.inj i j cs ds g h q u h5 h6 e
    · obtain ⟨g', _, _, k, _⟩ := hM.blk j ds u'
      have k' := h3.ext _ _ k
      rw [h6] at k'; cases k'
      exact (far q h5 u u' k e).elim
    · obtain ⟨g', _, _, k, _⟩ := hM.blk i cs q'
      have k' := h3.ext _ _ k
      rw [h5] at k'; cases k'
      exact (far u h6 q q' k e.symm).elim
    · obtain ⟨g', _, _, k, _⟩ := hM.blk i cs q'
      have k' := h3.ext _ _ k
      rw [h5] at k'; cases k'
      obtain ⟨h', _, _, m, _⟩ := hM.blk j ds u'
      have m' := h3.ext _ _ m
      rw [h6] at m'; cases m'
      exact hM.inj i j cs ds _ _ q' u' k m e
  · simp only [look_append, (h2.glob i cs hl).2.1, Option.some_or]
  · rcases split' hl with h | ⟨_, h⟩
    · obtain ⟨ds, k⟩ := h3.old i cs h hi
      exact ⟨ds, (look_sel_some k).2⟩
    · exact ⟨cs, h⟩
  · exact h3.keep k hk (fun i cs g hlo hl hi => h4 i cs g hlo (look_sel_some hl).2 hi) h5
  · rcases split' hs with h | ⟨_, h⟩
    · obtain ⟨j, ds, g', k1, k2, k3⟩ := h3.anc i cs g hl h hi hg
      exact ⟨j, ds, g', k1, (look_sel_some k2).2, k3⟩
    · obtain ⟨g', _, _, k, _⟩ := hM.blk i cs h
      have k' := h3.ext _ _ k
      rw [hi] at k'; cases k'
      exact ⟨i, cs, g, by rw [← h3.lo]; exact hl, h, k, rfl⟩

def isMapAt (p : Nat → Bool) (ob : List (Nat × AOb)) (i : Nat) : Bool := bif p i then (match look ob i with
  | some (.map _) => true
  | _ => false) else false
def mapsOf (p : Nat → Bool) (ob : List (Nat × AOb)) : List (Nat × AOb) := sel (isMapAt p ob) ob
def restOf (p : Nat → Bool) (ob : List (Nat × AOb)) : List (Nat × AOb) := sel (fun i => !isMapAt p ob i) ob
theorem mapsOf_some {p : Nat → Bool} {ob : List (Nat × AOb)} {i : Nat} {o : AOb} (h : look (mapsOf p ob) i = some o) : isMapAt p ob i = true ∧ look ob i = some o := look_sel_some h
theorem restOf_some {p : Nat → Bool} {ob : List (Nat × AOb)} {i : Nat} {o : AOb} (h : look (restOf p ob) i = some o) : isMapAt p ob i = false ∧ look ob i = some o := by
  obtain ⟨h1, h2⟩ := look_sel_some h
  exact ⟨by simpa using h1, h2⟩
/-- What was hidden is as it was. -/
theorem unhide {q : Nat → Bool} {r r' : Nat → Option (Nat × Nat)} {M M' : Mem} {w w' : World} (hM : MR r M w) (hM' : MR r' M' w') (hs : Stp r { M with ob := mapsOf q M.ob } w r' M' w') : MR r' { M' with ob := M'.ob ++ restOf q M.ob } w' ∧ Stp r M w r' { M' with ob := M'.ob ++ restOf q M.ob } w' := by
  have same : ∀ i o g, look (restOf q M.ob) i = some o → r i = some g → w'.heap[g.1]? = w.heap[g.1]? := fun i o g hl hi =>
    hs.keep g.1 (hM.ltO (restOf_some hl).2 hi) (fun j cs k _ h2 h3 => hM.apart h2 h3 (restOf_some hl).2 hi) fun j p k h2 h3 e => by
      have := hM.injO j i p o k g (mapsOf_some h2).2 (restOf_some hl).2 h3 hi e
      subst this
      have := (mapsOf_some h2).1
      rw [(restOf_some hl).1] at this; cases this
  have split' : ∀ {i o}, look (M'.ob ++ restOf q M.ob) i = some o → look M'.ob i = some o ∨ look (restOf q M.ob) i = some o := fun {i o} h => by
    rw [look_append] at h
    cases hl : look M'.ob i with
    | some c => rw [hl] at h; exact .inl h
    | none => rw [hl] at h; exact .inr h
  -- an object in sight is none of those that were not
  have far : ∀ {i j o p g h}, look M'.ob i = some o → r' i = some g → look (restOf q M.ob) j = some p → r j = some h → g.1 = h.1 → False := fun {i j o p g h} h1 h2 h3 h4 e => by
    have hlt := hM.ltO (restOf_some h3).2 h4
    obtain ⟨k, q', f, k1, k2, k3⟩ := hs.ancO i o g h1 h2 (by rw [e]; exact hlt)
    have := hM.injO k j q' p f h (mapsOf_some k1).2 (restOf_some h3).2 k2 h4 (k3.trans e)
    subst this
    have := (mapsOf_some k1).1
    rw [(restOf_some h3).1] at this; cases this
  refine ⟨⟨hM'.blk, hM'.inj, hM'.bound, hM'.glob, fun i o hl => ?_, fun i j o p g h h1 h2 h3 h4 e => ?_⟩, ⟨hs.ext, hs.lo, hs.next, hs.old, hs.os, hs.tape, hs.output, hs.size, fun k hk hn hn' => hs.keep k hk hn (fun i o g hl => hn' i o g (mapsOf_some hl).2), hs.anc, hs.gl, fun i o g hl hi hg => ?_⟩⟩
  · rcases split' hl with hl | hl
    · exact hM'.obj i o hl
    · obtain ⟨g, x, h1, h2, h3⟩ := hM.obj i o (restOf_some hl).2
      exact ⟨g, x, hs.ext _ _ h1, by rw [same i o g hl h1]; exact h2, h3.mono hs.ext⟩
  · have back : ∀ {i o g}, look (restOf q M.ob) i = some o → r' i = some g → r i = some g := fun {i o g} hl hi => by
      obtain ⟨g', _, q1, _⟩ := hM.obj i o (restOf_some hl).2
      have e1 := hs.ext _ _ q1
      rw [hi] at e1; cases e1
      exact q1
    rcases split' h1 with h1 | h1 <;> rcases split' h2 with h2 | h2
    · exact hM'.injO i j o p g h h1 h2 h3 h4 e
    · exact (far h1 h3 h2 (back h2 h4) e).elim
    · exact (far h2 h4 h1 (back h1 h3) e.symm).elim
    · exact hM.injO i j o p g h (restOf_some h1).2 (restOf_some h2).2 (back h1 h3) (back h2 h4) e
  · rcases split' hl with hl | hl
    · obtain ⟨j, p, h, k1, k2, k3⟩ := hs.ancO i o g hl hi hg
      exact ⟨j, p, h, (mapsOf_some k1).2, k2, k3⟩
    · obtain ⟨g', x, q1, _⟩ := hM.obj i o (restOf_some hl).2
      have e1 := hs.ext _ _ q1
      rw [hi] at e1; cases e1
      exact ⟨i, o, _, (restOf_some hl).2, q1, rfl⟩
/-- Both. -/
theorem part_rel {r : Nat → Option (Nat × Nat)} {M : Mem} {w : World} {p : Nat → Bool} (hM : MR r M w) (hp : ∀ i cs, look M.gl i = some cs → p i = true) : MR r { M with bl := sel p M.bl, ob := mapsOf p M.ob } w :=
  have h1 : MR r { M with bl := sel p M.bl } w := hM.sub (fun i cs hl => (look_sel_some hl).2) fun i cs hl => by
    rw [look_sel, hp i cs hl]
    exact (hM.glob i cs hl).2.1
  ⟨h1.blk, h1.inj, h1.bound, h1.glob, fun i o hl => hM.obj i o (mapsOf_some hl).2, fun i j o o' g h h1 h2 => hM.injO i j o o' g h (mapsOf_some h1).2 (mapsOf_some h2).2⟩
theorem part_back {r r' : Nat → Option (Nat × Nat)} {M M' : Mem} {w w' : World} {p : Nat → Bool} (hM : MR r M w) (hlo : M.lo ≤ 64 * M.next) (h2 : MR r' M' w') (h3 : Stp r { M with bl := sel p M.bl, ob := mapsOf p M.ob } w r' M' w') :
    MR r' { M' with bl := M'.bl ++ sel (fun i => !p i) M.bl, ob := M'.ob ++ restOf p M.ob } w' ∧ Stp r M w r' { M' with bl := M'.bl ++ sel (fun i => !p i) M.bl, ob := M'.ob ++ restOf p M.ob } w' := by
  have hMo : MR r { M with ob := mapsOf p M.ob } w := ⟨hM.blk, hM.inj, hM.bound, hM.glob, fun i o hl => hM.obj i o (mapsOf_some hl).2, fun i j o o' g h h1 h2 => hM.injO i j o o' g h (mapsOf_some h1).2 (mapsOf_some h2).2⟩
  obtain ⟨k1, k2⟩ := hide_sound (M := { M with ob := mapsOf p M.ob }) hMo hlo h2 h3
  exact unhide hM k1 k2
/-- Lists built whole. -/
def selK {α β : Type} (p : Nat → Bool) : List (Nat × α) → (List (Nat × α) → β) → β
  | [], k => k []
  | (i, c) :: r, k => bif p i then selK p r fun r => k ((i, c) :: r) else selK p r k
theorem selK_eq {α β : Type} (p : Nat → Bool) : ∀ (l : List (Nat × α)) (k : List (Nat × α) → β), selK p l k = k (sel p l)
  | [], k => rfl
  | (i, c) :: r, k => by
    simp only [selK, sel, selK_eq p r]
    cases p i <;> rfl
def appK {α β : Type} : List α → List α → (List α → β) → β
  | [], m, k => k m
  | x :: l, m, k => appK l m fun r => k (x :: r)
theorem appK_eq {α β : Type} : ∀ (l m : List α) (k : List α → β), appK l m k = k (l ++ m)
  | [], m, k => rfl
  | x :: l, m, k => by simp only [appK, appK_eq l, List.cons_append]
/-- The memory with some of its blocks, and its maps. -/
def Mem.partK {α : Type} (M : Mem) (p : Nat → Bool) (k : Mem → α) : α := match M with
  | ⟨next, lo, bl, gl, ob⟩ => selK p bl fun bl => (match ob with
    | [] => k ⟨next, lo, bl, gl, []⟩
    | x :: ob => selK (isMapAt p (x :: ob)) (x :: ob) fun ob => k ⟨next, lo, bl, gl, ob⟩)
theorem Mem.partK_eq {α : Type} (M : Mem) (p : Nat → Bool) (k : Mem → α) : M.partK p k = k { M with bl := sel p M.bl, ob := mapsOf p M.ob } := by
  obtain ⟨next, lo, bl, gl, ob⟩ := M
  cases ob with
  | nil => simp only [Mem.partK, selK_eq]; rfl
  | cons x ob => simp only [Mem.partK, selK_eq]; rfl
def Mem.wholeK {α : Type} (M : Mem) (p : Nat → Bool) (m : Mem) (k : Mem → α) : α := match M with
  | ⟨_, _, bl, _, ob⟩ => match m with
    | ⟨next, lo, bl', gl, ob'⟩ => selK (fun i => !p i) bl fun hid => appK bl' hid fun bl => (match ob with
      | [] => k ⟨next, lo, bl, gl, ob' ++ []⟩
      | x :: ob => selK (fun i => !isMapAt p (x :: ob) i) (x :: ob) fun hid => appK ob' hid fun ob => k ⟨next, lo, bl, gl, ob⟩)
theorem Mem.wholeK_eq {α : Type} (M : Mem) (p : Nat → Bool) (m : Mem) (k : Mem → α) : M.wholeK p m k = k { m with bl := m.bl ++ sel (fun i => !p i) M.bl, ob := m.ob ++ restOf p M.ob } := by
  obtain ⟨next, lo, bl, gl, ob⟩ := M
  cases ob with
  | nil => simp only [Mem.wholeK, selK_eq, appK_eq]; rfl
  | cons x ob => simp only [Mem.wholeK, selK_eq, appK_eq]; rfl

/-! ### What a value leads to. -/
def addrL (f : Value → List Nat → List Nat) : List Value → List Nat → List Nat
  | [], acc => acc
  | x :: xs, acc => addrL f xs (f x acc)
def addrV : Nat → Value → List Nat → List Nat
  | 0, _, acc => acc
  | n + 1, v, acc => match v with
    | .pointer (some a) => forceN a.block fun b => b :: acc
    | .slice (some a) _ _ => forceN a.block fun b => b :: acc
    | .map (some i) => forceN i fun i => i :: acc
    | .agg xs => addrL (addrV n) xs.toList acc
    | .tuple xs => addrL (addrV n) xs.toList acc
    | .func (.yield i) _ _ => forceN i fun i => i :: acc
    | .func _ xs ys => addrL (addrV n) ys.toList (addrL (addrV n) xs.toList acc)
    | .iface _ u => addrV n u acc
    | _ => acc
def addrE : List (Value × Value) → List Nat → List Nat
  | [], acc => acc
  | p :: r, acc => addrE r (addrV 4 p.2 acc)
def memR (i : Nat) : List Nat → Bool
  | [] => false
  | j :: r => bif Nat.beq j i then true else memR i r
def firstAddr : Nat → List Value → Bool
  | 0, _ => false
  | _ + 1, [] => false
  | n + 1, v :: r => match v with
    | .pointer (some _) => true
    | .slice (some _) _ _ => true
    | .map (some _) => true
    | .func _ _ _ => true
    | .iface _ _ => true
    | .agg _ => true
    | _ => firstAddr n r
def reachW (bl : List (Nat × List Value)) (ob : List (Nat × AOb)) : Nat → List Nat → List Nat → List Nat
  | 0, _, done => done
  | _ + 1, [], done => done
  | n + 1, b :: todo, done => bif memR b done then reachW bl ob n todo done else match look bl b with
    | some cs => bif firstAddr 16 cs then reachW bl ob n (addrL (addrV 4) cs todo) (b :: done) else reachW bl ob n todo (b :: done)
    | none => match look ob b with
      | some (.map es) => reachW bl ob n (addrE es todo) (b :: done)
      | _ => reachW bl ob n todo (b :: done)
def loopIn (ob : List (Nat × AOb)) : List Nat → Bool
  | [] => false
  | i :: r => match look ob i with
    | some (.loop _ _ _ _ _ _) => true
    | _ => loopIn ob r
def frameP (R : List Nat) (gl : List (Nat × List Value)) (i : Nat) : Bool := bif memR i R then true else match look gl i with
  | some _ => true
  | none => false
theorem frameP_gl {R : List Nat} {gl : List (Nat × List Value)} {i : Nat} {cs : List Value} (h : look gl i = some cs) : frameP R gl i = true := by
  unfold frameP
  rw [h]
  cases memR i R <;> rfl
def namesOf : List (Nat × List Value) → List Nat
  | [] => []
  | p :: r => p.1 :: namesOf r
/-- What a call has made and nothing leads to is let go. -/
def gcP (next0 : Nat) (L : List Nat) (gl : List (Nat × List Value)) (i : Nat) : Bool := bif Nat.blt i next0 then true else frameP L gl i
def gcC (M : Mem) (k : Value → Mem → Option CR) (v : Value) (M' : Mem) : Option CR := match M' with
  | ⟨next, lo, bl, gl, ob⟩ => bif Nat.ble next (M.next + 6) then k v ⟨next, lo, bl, gl, ob⟩
    else forceN (64 * M.next) fun lim => forceL (reachW bl ob 5000 (addrV 4 v (namesOf M.bl)) []) fun L => selK (gcP lim L gl) bl fun bl => k v ⟨next, lo, bl, gl, ob⟩
/-- A call sees what its arguments lead to. -/
def frameE (M : Mem) (xs : List Value) (k : List Nat → Mem → Option CR) : Option CR :=
  bif xs.all (af 4) then k [] M else
  forceL (reachW M.bl M.ob 5000 (addrL (addrV 4) xs []) []) fun R =>
  bif loopIn M.ob R || !(Nat.ble M.lo (64 * M.next)) then k [] M else
  match (M.partK (frameP R M.gl) fun M1 => match k R M1 with
    | some (.ret v M') => forceD 4 v fun v => gcC M1 (fun v M' => M.wholeK (frameP R M.gl) M' fun M' => some (.ret v M')) v M'
    | some (.pan ch M') => M.wholeK (frameP R M.gl) M' fun M' => some (.pan ch M')
    | none => none) with
  | some c => some c
  | none => k [] M
theorem frame_sound {P : Program} {G : List (Nat × List Value)} {f : FuncId} {ys : Array Value} {M : Mem} {xs : List Value} {k : List Nat → Mem → Option CR} {c : CR} {r : Nat → Option (Nat × Nat)} {w : World}
    (hk : ∀ R M1 c1, k R M1 = some c1 → MR r M1 w → M1.gl = G → Calls P f ys w (Gives r M1 w c1)) (hM : MR r M w) (hG : M.gl = G) (h : frameE M xs k = some c) : Calls P f ys w (Gives r M w c) := by
  unfold frameE at h
  cases ha : xs.all (af 4) with
  | true => rw [ha] at h; exact hk [] M c h hM hG
  | false =>
    rw [ha] at h
    simp only [cond_false, forceL_eq, Mem.partK_eq, forceD_eq, Mem.wholeK_eq] at h
    generalize hR : reachW M.bl M.ob 5000 (addrL (addrV 4) xs []) [] = R at h
    generalize hc : (loopIn M.ob R || !(Nat.ble M.lo (64 * M.next))) = d at h
    cases d with
    | true => exact hk [] M c h hM hG
    | false =>
      simp only [cond_false] at h
      simp only [Bool.or_eq_false_iff, Bool.not_eq_false'] at hc
      have hlo := Nat.le_of_ble_eq_true hc.2
      have hp : ∀ i cs, look M.gl i = some cs → frameP R M.gl i = true := fun i cs hl => frameP_gl hl
      have hM1 := part_rel (p := frameP R M.gl) hM hp
      split at h
      case h_2 => exact hk [] M c h hM hG
      rename_i c' h'
      cases h
      split at h'
      case h_3 => cases h'
      · rename_i v M2 hq
        have hcall := hk _ _ _ hq hM1 hG
        -- what is let go
        have hgc : ∃ M3, (M3 = M2 ∨ ∃ q : Nat → Bool, (∀ i cs, look M2.gl i = some cs → q i = true) ∧ M3 = { M2 with bl := sel q M2.bl }) ∧ some (CR.ret v { M3 with bl := M3.bl ++ sel (fun i => !frameP R M.gl i) M.bl, ob := M3.ob ++ restOf (frameP R M.gl) M.ob }) = some c := by
          obtain ⟨next, lo, bl, gl, ob⟩ := M2
          unfold gcC at h'
          simp only [forceN_eq, forceL_eq, selK_eq] at h'
          generalize hb : Nat.ble next (M.next + 6) = b at h'
          cases b with
          | true => exact ⟨_, .inl rfl, h'⟩
          | false =>
            refine ⟨_, .inr ⟨gcP (64 * M.next) (reachW bl ob 5000 (addrV 4 v (namesOf (sel (frameP R M.gl) M.bl))) []) gl, fun i cs hl => ?_, rfl⟩, h'⟩
            unfold gcP
            rw [frameP_gl hl]
            cases Nat.blt i (64 * M.next) <;> rfl
        obtain ⟨M3, h3, h4⟩ := hgc
        cases h4
        refine hcall.mono fun e w' ⟨v', r', he, hv, hm, hs⟩ => ?_
        have h5 : MR r' M3 w' ∧ Stp r { M with bl := sel (frameP R M.gl) M.bl, ob := mapsOf (frameP R M.gl) M.ob } w r' M3 w' := by
          rcases h3 with rfl | ⟨q, hq', rfl⟩
          · exact ⟨hm, hs⟩
          · refine ⟨hm.sub (fun i cs hl => (look_sel_some hl).2) fun i cs hl => ?_, hs.fewer fun i cs hl => (look_sel_some hl).2⟩
            rw [look_sel, hq' i cs hl]
            exact (hm.glob i cs hl).2.1
        obtain ⟨h6, h7⟩ := part_back hM hlo h5.1 h5.2
        exact ⟨v', r', he, hv, h6, h7⟩
      · rename_i ch M2 hq
        cases h'
        have hcall := hk _ _ _ hq hM1 hG
        refine hcall.mono fun e w' ⟨he, r', hm, hs⟩ => ?_
        obtain ⟨h6, h7⟩ := part_back hM hlo hm hs
        exact ⟨he, r', h6, h7⟩
end Ev
end Go.Proofs.YtccjmmdppjialaaGreatDoor
