/- The evaluator, A: abstract values and memory, and what they say of a world. No program is named here. -/
import Derived.WalkKit
import Derived.OrdersHeld
import Derived.LoopN
import Derived.Laws.CopyRow
namespace Go.Proofs.YtccjmmdppjialaaGreatDoor
open Go.RowKit
namespace Ev

/-- A value without an address in it (to a depth). -/
def af : Nat → Value → Bool
  | 0, _ => false
  | n + 1, v => match v with
    | .bool _ => true
    | .int _ _ => true
    | .string _ => true
    | .pointer none => true
    | .slice none _ _ => true
    | .nilFunc => true
    | .nilIface => true
    | .map none => true
    | .agg xs => xs.toList.all (af n)
    | .tuple xs => xs.toList.all (af n)
    | .func (.yield _) _ _ => false
    | .func _ xs ys => xs.toList.all (af n) && ys.toList.all (af n)
    | .iface _ u => af n u
    | _ => false

def isYield : Fn → Bool
  | .yield _ => true
  | _ => false
theorem af_func {fn : Fn} (hy : isYield fn = false) (n : Nat) (xs ys : Array Value) : af (n + 1) (.func fn xs ys) = (xs.toList.all (af n) && ys.toList.all (af n)) := by
  cases fn <;> first | rfl | cases hy

/-- What an abstract value says of a value: blocks are renamed, capacities are at least what they are said to be. -/
inductive VR (r : Nat → Option (Nat × Nat)) : Value → Value → Prop
  | same (k : Nat) (v : Value) (h : af k v = true) : VR r v v
  | ptr (b o : Nat) (g : Nat × Nat) (h : r b = some g) : VR r (.pointer (some ⟨b, o, none⟩)) (.pointer (some ⟨g.1, o, none⟩))
  | slice (b o n c c' : Nat) (g : Nat × Nat) (h : r b = some g) (hc : c ≤ c') (ht : c' = c ∨ (0 < b % 64 ∧ o + c' * (b % 64) = g.2) ∨ b % 64 = 63) : VR r (.slice (some ⟨b, o, none⟩) n c) (.slice (some ⟨g.1, o, none⟩) n c')
  | agg (xs ys : Array Value) (hs : xs.size = ys.size) (h : ∀ (i : Nat) x y, xs[i]? = some x → ys[i]? = some y → VR r x y) : VR r (.agg xs) (.agg ys)
  | tuple (xs ys : Array Value) (hs : xs.size = ys.size) (h : ∀ (i : Nat) x y, xs[i]? = some x → ys[i]? = some y → VR r x y) : VR r (.tuple xs) (.tuple ys)
  | func (fn : Fn) (xs ys us vs : Array Value) (hy : isYield fn = false) (hs : xs.size = ys.size) (h : ∀ (i : Nat) x y, xs[i]? = some x → ys[i]? = some y → VR r x y)
      (ht : us.size = vs.size) (h' : ∀ (i : Nat) x y, us[i]? = some x → vs[i]? = some y → VR r x y) : VR r (.func fn xs us) (.func fn ys vs)
  | iface (t : TypeId) (u v : Value) (h : VR r u v) : VR r (.iface t u) (.iface t v)
  | yield (i : Nat) (g : Nat × Nat) (h : r i = some g) : VR r (.func (.yield i) #[] #[]) (.func (.yield g.1) #[] #[])
  | map (i : Nat) (g : Nat × Nat) (h : r i = some g) : VR r (.map (some i)) (.map (some g.1))
  /-- A slice of no elements that is not nil, wherever it is. -/
  | empty (a : Addr) (c : Nat) : VR r (.chan (some 0)) (.slice (some a) 0 c)

theorem VR.mono {r r' : Nat → Option (Nat × Nat)} (hr : ∀ i g, r i = some g → r' i = some g) {v v' : Value} (h : VR r v v') : VR r' v v' := by
  induction h with
  | same k v h => exact .same k v h
  | ptr b o g h => exact .ptr b o g (hr _ _ h)
  | slice b o n c c' g h hc ht => exact .slice b o n c c' g (hr _ _ h) hc ht
  | agg xs ys hs _ ih => exact .agg xs ys hs ih
  | tuple xs ys hs _ ih => exact .tuple xs ys hs ih
  | func fn xs ys us vs hy hs _ ht _ ih ih' => exact .func fn xs ys us vs hy hs ih ht ih'
  | iface t u v _ ih => exact .iface t u v ih
  | yield i g h => exact .yield i g (hr _ _ h)
  | map i g h => exact .map i g (hr _ _ h)
  | empty a c => exact .empty a c

theorem eq_of_rows {xs ys : Array Value} (hs : xs.size = ys.size) (h : ∀ (i : Nat) x y, xs[i]? = some x → ys[i]? = some y → y = x) : ys = xs := by
  apply Array.ext_getElem?
  intro i
  rcases Nat.lt_or_ge i xs.size with hi | hi
  · rw [Array.getElem?_eq_getElem hi, Array.getElem?_eq_getElem (hs ▸ hi)]
    exact congrArg some (h i _ _ (Array.getElem?_eq_getElem hi) (Array.getElem?_eq_getElem (hs ▸ hi)))
  · rw [Array.getElem?_eq_none hi, Array.getElem?_eq_none (hs ▸ hi)]

theorem all_at {p : Value → Bool} {xs : Array Value} (h : xs.toList.all p = true) {i : Nat} {x : Value} (hx : xs[i]? = some x) : p x = true :=
  List.all_eq_true.1 h x (by rw [← Array.getElem?_toList] at hx; exact List.mem_of_getElem? hx)

/-- A value without addresses says which value it is. -/
theorem VR.eq {r : Nat → Option (Nat × Nat)} {v v' : Value} (h : VR r v v') : ∀ {k : Nat}, af k v = true → v' = v := by
  induction h with
  | same => intros; rfl
  | ptr => intro k h; cases k <;> simp [af] at h
  | slice => intro k h; cases k <;> simp [af] at h
  | agg xs ys hs _ ih =>
    intro k h
    cases k with
    | zero => simp [af] at h
    | succ k => rw [eq_of_rows hs fun i x y hx hy => ih i x y hx hy (all_at h hx)]
  | tuple xs ys hs _ ih =>
    intro k h
    cases k with
    | zero => simp [af] at h
    | succ k => rw [eq_of_rows hs fun i x y hx hy => ih i x y hx hy (all_at h hx)]
  | func fn xs ys us vs hy hs _ ht _ ih ih' =>
    intro k h
    cases k with
    | zero => simp [af] at h
    | succ k =>
      rw [af_func hy] at h
      simp only [Bool.and_eq_true] at h
      rw [eq_of_rows hs fun i x y hx hy => ih i x y hx hy (all_at h.1 hx), eq_of_rows ht fun i x y hx hy => ih' i x y hx hy (all_at h.2 hx)]
  | iface t u v _ ih =>
    intro k h
    cases k with
    | zero => simp [af] at h
    | succ k => rw [ih h]
  | yield => intro k h; cases k <;> simp [af] at h
  | map => intro k h; cases k <;> simp [af] at h
  | empty => intro k h; cases k <;> simp [af] at h

theorem VR.bool {r : Nat → Option (Nat × Nat)} {b : Bool} {v : Value} (h : VR r (.bool b) v) : v = .bool b := h.eq (k := 1) rfl
theorem VR.int {r : Nat → Option (Nat × Nat)} {k : IntKind} {n : Int} {v : Value} (h : VR r (.int k n) v) : v = .int k n := h.eq (k := 1) rfl
theorem VR.of_int (r : Nat → Option (Nat × Nat)) (k : IntKind) (n : Int) : VR r (.int k n) (.int k n) := .same 1 _ rfl
theorem VR.of_bool (r : Nat → Option (Nat × Nat)) (b : Bool) : VR r (.bool b) (.bool b) := .same 1 _ rfl
theorem VR.undef (r : Nat → Option (Nat × Nat)) : VR r Go.undef Go.undef := .same 1 _ rfl

/-- Two rows, cell by cell. -/
def LR (r : Nat → Option (Nat × Nat)) (xs ys : List Value) : Prop := xs.length = ys.length ∧ ∀ (i : Nat) x y, xs[i]? = some x → ys[i]? = some y → VR r x y

theorem LR.mono {r r' : Nat → Option (Nat × Nat)} (hr : ∀ i g, r i = some g → r' i = some g) {xs ys : List Value} (h : LR r xs ys) : LR r' xs ys :=
  ⟨h.1, fun i x y hx hy => (h.2 i x y hx hy).mono hr⟩
theorem LR.nil (r : Nat → Option (Nat × Nat)) : LR r [] [] := ⟨rfl, fun i x y hx => by simp at hx⟩
theorem LR.cons {r : Nat → Option (Nat × Nat)} {x y : Value} {xs ys : List Value} (h : VR r x y) (hs : LR r xs ys) : LR r (x :: xs) (y :: ys) :=
  ⟨by simp [hs.1], fun i u v hu hv => by
    cases i with
    | zero => simp at hu hv; subst hu; subst hv; exact h
    | succ i => exact hs.2 i u v (by simpa using hu) (by simpa using hv)⟩
theorem LR.head {r : Nat → Option (Nat × Nat)} {x y : Value} {xs ys : List Value} (h : LR r (x :: xs) (y :: ys)) : VR r x y := h.2 0 x y rfl rfl
theorem LR.tail {r : Nat → Option (Nat × Nat)} {x y : Value} {xs ys : List Value} (h : LR r (x :: xs) (y :: ys)) : LR r xs ys :=
  ⟨by simpa using h.1, fun i u v hu hv => h.2 (i + 1) u v (by simpa using hu) (by simpa using hv)⟩
theorem LR.append {r : Nat → Option (Nat × Nat)} {xs ys us vs : List Value} (h : LR r xs ys) (h' : LR r us vs) : LR r (xs ++ us) (ys ++ vs) := by
  induction xs generalizing ys with
  | nil => cases ys with
    | nil => exact h'
    | cons y ys => exact absurd h.1 (by simp)
  | cons x xs ih => cases ys with
    | nil => exact absurd h.1 (by simp)
    | cons y ys => exact .cons h.head (ih h.tail)
theorem LR.get {r : Nat → Option (Nat × Nat)} {xs ys : List Value} (h : LR r xs ys) {i : Nat} {x : Value} (hx : xs[i]? = some x) : ∃ y, ys[i]? = some y ∧ VR r x y := by
  have hi : i < ys.length := by
    rcases Nat.lt_or_ge i xs.length with h1 | h1
    · exact h.1 ▸ h1
    · rw [List.getElem?_eq_none h1] at hx; cases hx
  exact ⟨ys[i], List.getElem?_eq_getElem hi, h.2 i x _ hx (List.getElem?_eq_getElem hi)⟩
theorem LR.set {r : Nat → Option (Nat × Nat)} {xs ys : List Value} (h : LR r xs ys) (i : Nat) {x y : Value} (hv : VR r x y) : LR r (xs.set i x) (ys.set i y) := by
  refine ⟨by simp [h.1], fun j u v hu hv' => ?_⟩
  by_cases hij : i = j
  · subst hij
    rw [List.getElem?_set_self'] at hu hv'
    cases hx : xs[i]? with
    | none => rw [hx] at hu; simp at hu
    | some _ => cases hy : ys[i]? with
      | none => rw [hy] at hv'; simp at hv'
      | some _ => rw [hx] at hu; rw [hy] at hv'; simp at hu hv'; subst hu; subst hv'; exact hv
  · rw [List.getElem?_set_ne hij] at hu hv'
    exact h.2 j u v hu hv'
theorem LR.of_af {r : Nat → Option (Nat × Nat)} {k : Nat} : ∀ {xs : List Value}, xs.all (af k) = true → LR r xs xs
  | [], _ => .nil r
  | x :: xs, h => by
    simp only [List.all_cons, Bool.and_eq_true] at h
    exact .cons (.same k x h.1) (LR.of_af h.2)
theorem LR.eq {r : Nat → Option (Nat × Nat)} {k : Nat} {xs ys : List Value} (h : LR r xs ys) (ha : xs.all (af k) = true) : ys = xs := by
  induction xs generalizing ys with
  | nil => cases ys with
    | nil => rfl
    | cons y ys => exact absurd h.1 (by simp)
  | cons x xs ih => cases ys with
    | nil => exact absurd h.1 (by simp)
    | cons y ys =>
      simp only [List.all_cons, Bool.and_eq_true] at ha
      rw [h.head.eq ha.1, ih h.tail ha.2]
theorem LR.take {r : Nat → Option (Nat × Nat)} {xs ys : List Value} (h : LR r xs ys) (n : Nat) : LR r (xs.take n) (ys.take n) :=
  ⟨by simp [h.1], fun i x y hx hy => by
    rw [List.getElem?_take] at hx hy
    split at hx
    · rename_i hi; rw [if_pos hi] at hy; exact h.2 i x y hx hy
    · cases hx⟩
theorem LR.drop {r : Nat → Option (Nat × Nat)} {xs ys : List Value} (h : LR r xs ys) (n : Nat) : LR r (xs.drop n) (ys.drop n) :=
  ⟨by simp [h.1], fun i x y hx hy => by rw [List.getElem?_drop] at hx hy; exact h.2 _ x y hx hy⟩

theorem VR.agg' {r : Nat → Option (Nat × Nat)} {xs ys : List Value} (h : LR r xs ys) : VR r (.agg xs.toArray) (.agg ys.toArray) :=
  .agg _ _ (by simpa using h.1) fun i x y hx hy => h.2 i x y (by simpa using hx) (by simpa using hy)
theorem VR.tuple' {r : Nat → Option (Nat × Nat)} {xs ys : List Value} (h : LR r xs ys) : VR r (.tuple xs.toArray) (.tuple ys.toArray) :=
  .tuple _ _ (by simpa using h.1) fun i x y hx hy => h.2 i x y (by simpa using hx) (by simpa using hy)
theorem VR.of_agg {r : Nat → Option (Nat × Nat)} {xs : Array Value} {v : Value} (h : VR r (.agg xs) v) : ∃ ys, v = .agg ys ∧ LR r xs.toList ys.toList := by
  cases h with
  | same k _ h =>
    cases k with
    | zero => simp [af] at h
    | succ k => exact ⟨xs, rfl, LR.of_af (k := k) h⟩
  | agg _ ys hs h => exact ⟨ys, rfl, by simpa using hs, fun i x y hx hy => h i x y (by simpa using hx) (by simpa using hy)⟩
theorem VR.of_tuple {r : Nat → Option (Nat × Nat)} {xs : Array Value} {v : Value} (h : VR r (.tuple xs) v) : ∃ ys, v = .tuple ys ∧ LR r xs.toList ys.toList := by
  cases h with
  | same k _ h =>
    cases k with
    | zero => simp [af] at h
    | succ k => exact ⟨xs, rfl, LR.of_af (k := k) h⟩
  | tuple _ ys hs h => exact ⟨ys, rfl, by simpa using hs, fun i x y hx hy => h i x y (by simpa using hx) (by simpa using hy)⟩
theorem VR.of_func {r : Nat → Option (Nat × Nat)} {fn : Fn} {xs us : Array Value} {v : Value} (hy : isYield fn = false) (h : VR r (.func fn xs us) v) : ∃ ys vs, v = .func fn ys vs ∧ LR r xs.toList ys.toList ∧ LR r us.toList vs.toList := by
  cases h with
  | same k _ h =>
    cases k with
    | zero => simp [af] at h
    | succ k =>
      rw [af_func hy] at h
      simp only [Bool.and_eq_true] at h
      exact ⟨xs, us, rfl, LR.of_af (k := k) h.1, LR.of_af (k := k) h.2⟩
  | func _ _ ys _ vs _ hs h ht h' =>
    exact ⟨ys, vs, rfl, ⟨by simpa using hs, fun i x y hx hy => h i x y (by simpa using hx) (by simpa using hy)⟩, ⟨by simpa using ht, fun i x y hx hy => h' i x y (by simpa using hx) (by simpa using hy)⟩⟩
  | yield => cases hy
theorem VR.of_yield {r : Nat → Option (Nat × Nat)} {i : Nat} {xs us : Array Value} {v : Value} (h : VR r (.func (.yield i) xs us) v) : ∃ g, r i = some g ∧ v = .func (.yield g.1) #[] #[] := by
  cases h with
  | same k _ h => cases k <;> simp [af] at h
  | func _ _ _ _ _ hy => cases hy
  | yield _ g h => exact ⟨g, h, rfl⟩
theorem VR.of_map {r : Nat → Option (Nat × Nat)} {i : Nat} {v : Value} (h : VR r (.map (some i)) v) : ∃ g, r i = some g ∧ v = .map (some g.1) := by
  cases h with
  | same k _ h => cases k <;> simp [af] at h
  | map _ g h => exact ⟨g, h, rfl⟩
theorem VR.func' {r : Nat → Option (Nat × Nat)} (fn : Fn) (hy : isYield fn = false) {xs ys us vs : List Value} (h : LR r xs ys) (h' : LR r us vs) : VR r (.func fn xs.toArray us.toArray) (.func fn ys.toArray vs.toArray) :=
  .func fn _ _ _ _ hy (by simpa using h.1) (fun i x y hx hy => h.2 i x y (by simpa using hx) (by simpa using hy)) (by simpa using h'.1) (fun i x y hx hy => h'.2 i x y (by simpa using hx) (by simpa using hy))
theorem VR.of_ptr {r : Nat → Option (Nat × Nat)} {a : Addr} {v : Value} (h : VR r (.pointer (some a)) v) : a.spot = none ∧ ∃ g, r a.block = some g ∧ v = .pointer (some ⟨g.1, a.off, none⟩) := by
  cases h with
  | same k _ h => cases k <;> simp [af] at h
  | ptr b o g h => exact ⟨rfl, g, h, rfl⟩
theorem VR.of_slice {r : Nat → Option (Nat × Nat)} {a : Addr} {n c : Nat} {v : Value} (h : VR r (.slice (some a) n c) v) : a.spot = none ∧ ∃ g c', r a.block = some g ∧ c ≤ c' ∧ (c' = c ∨ (0 < a.block % 64 ∧ a.off + c' * (a.block % 64) = g.2) ∨ a.block % 64 = 63) ∧ v = .slice (some ⟨g.1, a.off, none⟩) n c' := by
  cases h with
  | same k _ h => cases k <;> simp [af] at h
  | slice b o n c c' g h hc ht => exact ⟨rfl, g, c', h, hc, ht, rfl⟩

/-! ### The temporaries: a tree of values, a path for each number. -/
inductive Tr where
  | e
  | nd (v : Value) (l r : Tr)
def pth : Nat → Nat → List Bool
  | 0, _ => []
  | k + 1, n => match n with
    | 0 => []
    | m + 1 => Nat.beq (m % 2) 1 :: pth k (m / 2)
def pathOf (n : Nat) : List Bool := pth n n
def unpath : List Bool → Nat
  | [] => 0
  | b :: p => 2 * unpath p + (if b then 2 else 1)
theorem unpath_pth : ∀ k n, n ≤ k → unpath (pth k n) = n
  | 0, n, h => by simp [pth, unpath]; omega
  | k + 1, n, h => by
    cases n with
    | zero => rfl
    | succ m =>
      simp only [pth, unpath, unpath_pth k (m / 2) (by omega)]
      cases hb : Nat.beq (m % 2) 1 with
      | true => have := Nat.eq_of_beq_eq_true hb; simp only [if_true]; omega
      | false =>
        have : ¬ m % 2 = 1 := fun e => by rw [e] at hb; cases hb
        simp only [Bool.false_eq_true, if_false]; omega
theorem pathOf_inj {i j : Nat} (h : pathOf i = pathOf j) : i = j := by
  have h1 := unpath_pth i i (Nat.le_refl _)
  have h2 := unpath_pth j j (Nat.le_refl _)
  unfold pathOf at h
  rw [h] at h1
  omega
def getT : List Bool → Tr → Value
  | [], t => match t with
    | .nd v _ _ => v
    | .e => Go.undef
  | b :: p, t => match t with
    | .nd _ l r => bif b then getT p r else getT p l
    | .e => Go.undef
def setT : List Bool → Value → Tr → Tr
  | [], v, t => match t with
    | .nd _ l r => .nd v l r
    | .e => .nd v .e .e
  | b :: p, v, t => match t with
    | .nd u l r => bif b then .nd u l (setT p v r) else .nd u (setT p v l) r
    | .e => bif b then .nd Go.undef .e (setT p v .e) else .nd Go.undef (setT p v .e) .e
theorem getT_e (p : List Bool) : getT p .e = Go.undef := by cases p <;> rfl
theorem get_set : ∀ (q p : List Bool) (v : Value) (t : Tr), getT p (setT q v t) = if p = q then v else getT p t
  | [], p, v, t => by
    cases p with
    | nil => cases t <;> rfl
    | cons b p => cases t <;> simp [setT, getT, getT_e]
  | b :: q, p, v, t => by
    cases p with
    | nil => cases t <;> cases b <;> simp [setT, getT]
    | cons c p =>
      have ih := get_set q p v
      cases t <;> cases b <;> cases c <;> simp [setT, getT, getT_e, ih]
/-- A deferred call, or the mark that a range over a function leaves. -/
inductive ADf where
  | mark (i : Nat)
  | call (f : FuncId) (xs : List Value)
structure Env where
  n : Nat
  t : Tr
  gs : List Nat
  ds : List ADf
  rd : Bool
def Env.get (env : Env) (i : Nat) : Value := getT (pathOf i) env.t
def Env.set (env : Env) (i : Nat) (v : Value) : Env := bif Nat.blt i env.n then { n := env.n, t := setT (pathOf i) v env.t, gs := env.gs, ds := env.ds, rd := env.rd } else env
def fillT : Nat → List Value → Tr → Tr
  | _, [], t => t
  | i, x :: xs, t => fillT (i + 1) xs (setT (pathOf i) x t)
def mkEnv (gs : List Nat) (n : Nat) (xs : List Value) : Env := { n := xs.length + (n - xs.length), t := fillT 0 xs .e, gs := gs, ds := [], rd := false }
theorem get_fill : ∀ (xs : List Value) (i j : Nat) (t : Tr), getT (pathOf j) (fillT i xs t) = if i ≤ j ∧ j < i + xs.length then xs.getD (j - i) Go.undef else getT (pathOf j) t
  | [], i, j, t => by rw [if_neg (by simp)]; rfl
  | x :: xs, i, j, t => by
    simp only [fillT, get_fill xs (i + 1) j, get_set, List.length_cons]
    by_cases hij : i = j
    · subst hij
      rw [if_neg (by omega), if_pos rfl, if_pos ⟨Nat.le_refl _, by omega⟩]
      simp
    · rw [if_neg (fun e => hij (pathOf_inj e).symm)]
      by_cases h : i + 1 ≤ j ∧ j < i + 1 + xs.length
      · rw [if_pos h, if_pos (by omega)]
        have : j - i = (j - (i + 1)) + 1 := by omega
        rw [this]; simp
      · rw [if_neg h, if_neg (by omega)]

/-- What the temporaries are said to be. -/
structure ER (r : Nat → Option (Nat × Nat)) (env : Env) (tmps : Array Value) : Prop where
  size : tmps.size = env.n
  val : ∀ i, VR r (env.get i) (tmps.getD i Go.undef)
  glob : ∀ g ∈ env.gs, ∃ s, r (64 * g) = some (g, s)
theorem ER.mono {r r' : Nat → Option (Nat × Nat)} (hr : ∀ i g, r i = some g → r' i = some g) {env : Env} {tmps : Array Value} (h : ER r env tmps) : ER r' env tmps :=
  ⟨h.1, fun i => (h.2 i).mono hr, fun g hg => let ⟨s, hs⟩ := h.3 g hg; ⟨s, hr _ _ hs⟩⟩
theorem Env.set_ds (env : Env) (i : Nat) (v : Value) : (env.set i v).ds = env.ds := by unfold Env.set; cases Nat.blt i env.n <;> rfl
theorem Env.set_rd (env : Env) (i : Nat) (v : Value) : (env.set i v).rd = env.rd := by unfold Env.set; cases Nat.blt i env.n <;> rfl
theorem ER.set {r : Nat → Option (Nat × Nat)} {env : Env} {tmps : Array Value} (h : ER r env tmps) (i : Nat) {v v' : Value} (hv : VR r v v') : ER r (env.set i v) (tmps.setIfInBounds i v') := by
  unfold Env.set
  cases hb : Nat.blt i env.n with
  | false =>
    have hi : ¬ i < tmps.size := fun hlt => by
      rw [h.1] at hlt
      have : Nat.blt i env.n = true := Nat.ble_eq_true_of_le hlt
      rw [this] at hb; cases hb
    have : tmps.setIfInBounds i v' = tmps := by
      apply Array.ext_getElem?
      intro j
      rw [Array.getElem?_setIfInBounds]
      split
      · rename_i e; subst e; first | exact (Array.getElem?_eq_none (by omega)).symm | (rw [if_neg hi]; exact (Array.getElem?_eq_none (by omega)).symm)
      · rfl
    rw [this]; exact h
  | true =>
    have hlt : i < env.n := Nat.le_of_ble_eq_true hb
    refine ⟨by simpa using h.1, fun j => ?_, h.3⟩
    simp only [cond_true, Env.get, get_set]
    by_cases hij : j = i
    · subst hij
      rw [if_pos rfl]
      have hs : j < tmps.size := by rw [h.1]; exact hlt
      simp [Array.getD_eq_getD_getElem?, hs]
      exact hv
    · rw [if_neg (fun e => hij (pathOf_inj e))]
      have := h.2 j
      simp only [Array.getD_eq_getD_getElem?, Array.getElem?_setIfInBounds, if_neg (Ne.symm hij)]
      simpa [Array.getD_eq_getD_getElem?, Env.get] using this
theorem ER.made {r : Nat → Option (Nat × Nat)} {xs ys : List Value} (h : LR r xs ys) (n : Nat) {gs : List Nat} (hg : ∀ g ∈ gs, ∃ s, r (64 * g) = some (g, s)) : ER r (mkEnv gs n xs) (ys.toArray ++ Array.replicate (n - ys.toArray.size) Go.undef) := by
  refine ⟨by simp [mkEnv, h.1], fun j => ?_, hg⟩
  simp only [Env.get, mkEnv, get_fill, Nat.zero_le, true_and, Nat.zero_add, Nat.sub_zero, getT_e]
  have hl := h.1
  rcases Nat.lt_or_ge j xs.length with hj | hj
  · rw [if_pos hj]
    obtain ⟨y, h1, h2⟩ := h.get (List.getElem?_eq_getElem hj)
    have hjy : j < ys.length := by omega
    simp only [List.getD_eq_getElem?_getD, List.getElem?_eq_getElem hj, Option.getD_some, Array.getD_eq_getD_getElem?, Array.getElem?_append, List.size_toArray, if_pos hjy, List.getElem?_toArray, h1]
    exact h2
  · rw [if_neg (by omega)]
    have : (ys.toArray ++ Array.replicate (n - ys.toArray.size) Go.undef).getD j Go.undef = Go.undef := by
      simp only [Array.getD_eq_getD_getElem?, Array.getElem?_append, List.size_toArray, if_neg (show ¬ j < ys.length by omega), Array.getElem?_replicate]
      split <;> rfl
    rw [this]
    exact .undef r

/-- A value of which nothing is said. -/
def isU : Value → Bool
  | .chan none => true
  | _ => false
/-- The same, but of some temporaries nothing is said: where a region panicked. -/
structure EW (r : Nat → Option (Nat × Nat)) (env : Env) (tmps : Array Value) : Prop where
  size : tmps.size = env.n
  val : ∀ i, isU (env.get i) = true ∨ VR r (env.get i) (tmps.getD i Go.undef)
  glob : ∀ g ∈ env.gs, ∃ s, r (64 * g) = some (g, s)
theorem ER.weak {r : Nat → Option (Nat × Nat)} {env : Env} {tmps : Array Value} (h : ER r env tmps) : EW r env tmps := ⟨h.1, fun i => .inr (h.2 i), h.3⟩
theorem EW.mono {r r' : Nat → Option (Nat × Nat)} (hr : ∀ i g, r i = some g → r' i = some g) {env : Env} {tmps : Array Value} (h : EW r env tmps) : EW r' env tmps :=
  ⟨h.1, fun i => (h.2 i).imp id fun k => k.mono hr, fun g hg => let ⟨s, hs⟩ := h.3 g hg; ⟨s, hr _ _ hs⟩⟩
/-- What is said at an exit. -/
def EX (e : Exit) (r : Nat → Option (Nat × Nat)) (env : Env) (tmps : Array Value) : Prop := match e with
  | .panic _ => EW r env tmps
  | _ => ER r env tmps
theorem EX.of {e : Exit} {r : Nat → Option (Nat × Nat)} {env : Env} {tmps : Array Value} (h : ER r env tmps) : EX e r env tmps := by
  cases e <;> first | exact h | exact h.weak
theorem EX.weak {e : Exit} {r : Nat → Option (Nat × Nat)} {env : Env} {tmps : Array Value} (h : EX e r env tmps) : EW r env tmps := by
  cases e <;> first | exact h | exact ER.weak h
theorem EX.mono {e : Exit} {r r' : Nat → Option (Nat × Nat)} (hr : ∀ i g, r i = some g → r' i = some g) {env : Env} {tmps : Array Value} (h : EX e r env tmps) : EX e r' env tmps := by
  cases e <;> first | exact EW.mono hr h | exact ER.mono hr h
/-- The temporaries in question said to be anything. -/
def Env.lose (env : Env) (i : Nat) : Env := env.set i (.chan none)
theorem Env.lose_n (env : Env) (i : Nat) : (env.lose i).n = env.n := by unfold Env.lose Env.set; cases Nat.blt i env.n <;> rfl
theorem Env.lose_gs (env : Env) (i : Nat) : (env.lose i).gs = env.gs := by unfold Env.lose Env.set; cases Nat.blt i env.n <;> rfl
theorem Env.lose_ds (env : Env) (i : Nat) : (env.lose i).ds = env.ds := by unfold Env.lose Env.set; cases Nat.blt i env.n <;> rfl
theorem Env.lose_rd (env : Env) (i : Nat) : (env.lose i).rd = env.rd := by unfold Env.lose Env.set; cases Nat.blt i env.n <;> rfl
theorem Env.lose_get (env : Env) (i j : Nat) : (env.lose i).get j = if j = i ∧ i < env.n then .chan none else env.get j := by
  unfold Env.lose Env.set
  cases hb : Nat.blt i env.n with
  | false =>
    have : ¬ i < env.n := fun hlt => by
      have h1 : Nat.blt i env.n = true := Nat.ble_eq_true_of_le hlt
      rw [h1] at hb; cases hb
    rw [if_neg (fun h => this h.2)]
    rfl
  | true =>
    have hlt : i < env.n := Nat.le_of_ble_eq_true hb
    simp only [cond_true, Env.get, get_set]
    by_cases hij : j = i
    · subst hij; rw [if_pos rfl, if_pos ⟨rfl, hlt⟩]
    · rw [if_neg (fun e => hij (pathOf_inj e)), if_neg (fun h => hij h.1)]
theorem EW.lose {r : Nat → Option (Nat × Nat)} {env : Env} {tmps : Array Value} (h : EW r env tmps) (i : Nat) : EW r (env.lose i) tmps :=
  ⟨by rw [Env.lose_n]; exact h.1, fun j => by
    rw [Env.lose_get]
    split
    · exact .inl rfl
    · exact h.2 j, by rw [Env.lose_gs]; exact h.3⟩

/-! ### Memory: the blocks that are known, the newest first; blocks from 'lo' on may be written. -/
/-- What is no row: the mark's block, a loop's record, a map. -/
inductive AOb where
  | defd
  | loop (st : LoopState) (pend : Option Code) (env : Env) (ps : List Tmp) (as bd : Code)
  | map (es : List (Value × Value))
  | iter (s : ByteArray) (pos : Nat)
structure Mem where
  next : Nat
  lo : Nat
  bl : List (Nat × List Value)
  gl : List (Nat × List Value)
  ob : List (Nat × AOb)

theorem beq_ne {i j : Nat} (h : ¬ i = j) : Nat.beq i j = false := by
  cases hb : Nat.beq i j with
  | false => rfl
  | true => exact absurd (Nat.eq_of_beq_eq_true hb) h

def look {α : Type} : List (Nat × α) → Nat → Option α
  | [], _ => none
  | p :: r, j => bif Nat.beq p.1 j then some p.2 else look r j
def upd {α : Type} : List (Nat × α) → Nat → α → List (Nat × α)
  | [], _, _ => []
  | p :: r, j, c => bif Nat.beq p.1 j then (p.1, c) :: r else p :: upd r j c
def kill {α : Type} : List (Nat × α) → Nat → List (Nat × α)
  | [], _ => []
  | p :: r, j => bif Nat.beq p.1 j then kill r j else p :: kill r j

theorem look_cons {α : Type} (i j : Nat) (c : α) (r : List (Nat × α)) : look ((i, c) :: r) j = if i = j then some c else look r j := by
  show (bif Nat.beq i j then some c else look r j) = _
  by_cases h : i = j
  · subst h; rw [if_pos rfl]; have : Nat.beq i i = true := by simp
    rw [this]; rfl
  · rw [if_neg h]; have : Nat.beq i j = false := beq_ne h
    rw [this]; rfl
theorem look_upd {α : Type} : ∀ (r : List (Nat × α)) (i j : Nat) (c : α), look (upd r i c) j = if i = j then (look r i).map fun _ => c else look r j
  | [], i, j, c => by simp [upd, look]
  | (k, d) :: r, i, j, c => by
    have ih := look_upd r i j c
    show look (bif Nat.beq k i then (k, c) :: r else (k, d) :: upd r i c) j = _
    by_cases h : k = i
    · subst h
      have : Nat.beq k k = true := by simp
      rw [this]; simp only [cond_true, look_cons]
      by_cases h' : k = j <;> simp [h']
    · have hb : Nat.beq k i = false := beq_ne h
      rw [hb]; simp only [cond_false, look_cons, ih, if_neg h]
      by_cases h' : k = j
      · subst h'; rw [if_pos rfl, if_neg (Ne.symm h)]; simp
      · simp [h']
theorem look_kill {α : Type} : ∀ (r : List (Nat × α)) (i j : Nat), look (kill r i) j = if i = j then none else look r j
  | [], i, j => by simp [kill, look]
  | (k, d) :: r, i, j => by
    have ih := look_kill r i j
    show look (bif Nat.beq k i then kill r i else (k, d) :: kill r i) j = _
    by_cases h : k = i
    · subst h
      have : Nat.beq k k = true := by simp
      rw [this]; simp only [cond_true, look_cons, ih]
      by_cases h' : k = j <;> simp [h']
    · have hb : Nat.beq k i = false := beq_ne h
      rw [hb]; simp only [cond_false, look_cons, ih]
      by_cases h' : k = j
      · subst h'; simp [Ne.symm h]
      · simp [h']
theorem look_append {α : Type} (p q : List (Nat × α)) (j : Nat) : look (p ++ q) j = (look p j).or (look q j) := by
  induction p with
  | nil => simp [look]
  | cons x p ih =>
    obtain ⟨i, c⟩ := x
    simp only [List.cons_append, look_cons, ih]
    split <;> simp

/-- A map's entries. -/
def EntsR (r : Nat → Option (Nat × Nat)) : List (Value × Value) → List MapEntry → Prop
  | [], [] => True
  | p :: es, e :: l => (e.key = p.1 ∧ VR r p.2 e.val) ∧ EntsR r es l
  | _, _ => False
theorem EntsR.mono {r r' : Nat → Option (Nat × Nat)} (hr : ∀ i g, r i = some g → r' i = some g) : ∀ {es : List (Value × Value)} {l : List MapEntry}, EntsR r es l → EntsR r' es l
  | [], [], _ => trivial
  | _ :: _, _ :: _, h => ⟨⟨h.1.1, h.1.2.mono hr⟩, EntsR.mono hr h.2⟩
/-- What is said of an object that is no row. -/
def OB (r : Nat → Option (Nat × Nat)) : AOb → Obj → Prop
  | .defd, h => h = .deferred (some [])
  | .loop st pend env ps as bd, h => ∃ fn tmps dl, h = .loop { state := st, pending := pend, fn, tmps, params := ps.toArray, assign := as, body := bd, defers := dl } ∧ ER r env tmps
  | .map es, h => ∃ ents clock, h = .map ents clock ∧ EntsR r es ents.toList
  | .iter s pos, h => h = .stringIter s pos
theorem OB.mono {r r' : Nat → Option (Nat × Nat)} (hr : ∀ i g, r i = some g → r' i = some g) {o : AOb} {h : Obj} (ho : OB r o h) : OB r' o h := by
  cases o with
  | defd => exact ho
  | loop st pend env ps as bd => obtain ⟨fn, tmps, dl, e, he⟩ := ho; exact ⟨fn, tmps, dl, e, he.mono hr⟩
  | map es => obtain ⟨ents, clock, e, hs⟩ := ho; exact ⟨ents, clock, e, hs.mono hr⟩
  | iter s pos => exact ho
theorem OB.not_cells {r : Nat → Option (Nat × Nat)} {o : AOb} {cc : Array Value} {t : TypeId} {f : Nat × Nat} (h : OB r o (.cells cc t f)) : False := by
  cases o with
  | defd => cases h
  | loop st pend env ps as bd => obtain ⟨_, _, _, e, _⟩ := h; cases e
  | map es => obtain ⟨_, _, e, _⟩ := h; cases e
  | iter s pos => cases h

structure MR (r : Nat → Option (Nat × Nat)) (M : Mem) (w : World) : Prop where
  blk : ∀ i cs, look M.bl i = some cs → ∃ g t cc, r i = some g ∧ w.heap[g.1]? = some (.cells cc t (0, 0)) ∧ (0 < i % 64 → cc.size = g.2) ∧ ∀ (j : Nat) v, cs[j]? = some v → ∃ v', cc[j]? = some v' ∧ VR r v v'
  inj : ∀ i j cs ds g h, look M.bl i = some cs → look M.bl j = some ds → r i = some g → r j = some h → g.1 = h.1 → i = j
  bound : ∀ i g, r i = some g → i < 64 * M.next
  glob : ∀ i cs, look M.gl i = some cs → i < M.lo ∧ look M.bl i = some cs ∧ (∃ s, r i = some (i / 64, s)) ∧ cs.all (af 1) = true
  obj : ∀ i o, look M.ob i = some o → ∃ g h, r i = some g ∧ w.heap[g.1]? = some h ∧ OB r o h
  injO : ∀ i j o p g h, look M.ob i = some o → look M.ob j = some p → r i = some g → r j = some h → g.1 = h.1 → i = j

/-- From one state to a later one. -/
structure Stp (r : Nat → Option (Nat × Nat)) (M : Mem) (w : World) (r' : Nat → Option (Nat × Nat)) (M' : Mem) (w' : World) : Prop where
  ext : ∀ i g, r i = some g → r' i = some g
  lo : M'.lo = M.lo
  next : M.next ≤ M'.next
  old : ∀ i cs, look M'.bl i = some cs → i < 64 * M.next → ∃ ds, look M.bl i = some ds
  os : w'.os = w.os
  tape : w'.tape = w.tape
  output : w'.output = w.output
  size : w.heap.size ≤ w'.heap.size
  keep : ∀ k, k < w.heap.size → (∀ i cs g, M.lo ≤ i → look M.bl i = some cs → r i = some g → g.1 ≠ k) → (∀ i o g, look M.ob i = some o → r i = some g → g.1 ≠ k) → w'.heap[k]? = w.heap[k]?
  anc : ∀ i cs g, M'.lo ≤ i → look M'.bl i = some cs → r' i = some g → g.1 < w.heap.size → ∃ j ds h, M.lo ≤ j ∧ look M.bl j = some ds ∧ r j = some h ∧ h.1 = g.1
  gl : M'.gl = M.gl
  ancO : ∀ i o g, look M'.ob i = some o → r' i = some g → g.1 < w.heap.size → ∃ j p h, look M.ob j = some p ∧ r j = some h ∧ h.1 = g.1

theorem Stp.refl (r : Nat → Option (Nat × Nat)) (M : Mem) (w : World) : Stp r M w r M w :=
  ⟨fun _ _ h => h, rfl, Nat.le_refl _, fun _ cs h _ => ⟨cs, h⟩, rfl, rfl, rfl, Nat.le_refl _, fun _ _ _ _ => rfl, fun i cs g h1 h2 h3 _ => ⟨i, cs, g, h1, h2, h3, rfl⟩, rfl, fun i o g h1 h2 _ => ⟨i, o, g, h1, h2, rfl⟩⟩
theorem Stp.trans {r r' r'' : Nat → Option (Nat × Nat)} {M M' M'' : Mem} {w w' w'' : World} (h : Stp r M w r' M' w') (k : Stp r' M' w' r'' M'' w'') : Stp r M w r'' M'' w'' where
  ext i g hi := k.ext i g (h.ext i g hi)
  lo := k.lo.trans h.lo
  next := Nat.le_trans h.next k.next
  old i cs hl hi := by
    have := h.next
    obtain ⟨ds, h1⟩ := k.old i cs hl (by omega)
    exact h.old i ds h1 hi
  os := k.os.trans h.os
  tape := k.tape.trans h.tape
  output := k.output.trans h.output
  size := Nat.le_trans h.size k.size
  keep k' hg hn hn' := by
    rw [k.keep k' (Nat.lt_of_lt_of_le hg h.size) (fun i cs g hlo hl hi e => ?_) (fun i o g hl hi e => ?_), h.keep k' hg hn hn']
    · obtain ⟨j, ds, g', h1, h2, h3, h4⟩ := h.anc i cs g hlo hl hi (by omega)
      exact hn j ds g' h1 h2 h3 (h4.trans e)
    · obtain ⟨j, p, g', h2, h3, h4⟩ := h.ancO i o g hl hi (by omega)
      exact hn' j p g' h2 h3 (h4.trans e)
  anc i cs g hlo hl hi hg := by
    obtain ⟨j, ds, g', h1, h2, h3, h4⟩ := k.anc i cs g hlo hl hi (Nat.lt_of_lt_of_le hg h.size)
    obtain ⟨j', ds', g'', h1', h2', h3', h4'⟩ := h.anc j ds g' h1 h2 h3 (by omega)
    exact ⟨j', ds', g'', h1', h2', h3', h4'.trans h4⟩
  gl := k.gl.trans h.gl
  ancO i o g hl hi hg := by
    obtain ⟨j, p, g', h2, h3, h4⟩ := k.ancO i o g hl hi (Nat.lt_of_lt_of_le hg h.size)
    obtain ⟨j', p', g'', h2', h3', h4'⟩ := h.ancO j p g' h2 h3 (by omega)
    exact ⟨j', p', g'', h2', h3', h4'.trans h4⟩
theorem MR.lt {r : Nat → Option (Nat × Nat)} {M : Mem} {w : World} (h : MR r M w) {i : Nat} {g : Nat × Nat} {cs : List Value} (hl : look M.bl i = some cs) (hi : r i = some g) : g.1 < w.heap.size := by
  obtain ⟨g', t, cc, hg', hh, _⟩ := h.blk i cs hl
  rw [hi] at hg'; cases hg'
  rcases Nat.lt_or_ge g.1 w.heap.size with h' | h'
  · exact h'
  · rw [Array.getElem?_eq_none h'] at hh; cases hh
theorem MR.ltO {r : Nat → Option (Nat × Nat)} {M : Mem} {w : World} (h : MR r M w) {i : Nat} {g : Nat × Nat} {o : AOb} (hl : look M.ob i = some o) (hi : r i = some g) : g.1 < w.heap.size := by
  obtain ⟨g', x, hg', hh, _⟩ := h.obj i o hl
  rw [hi] at hg'; cases hg'
  rcases Nat.lt_or_ge g.1 w.heap.size with h' | h'
  · exact h'
  · rw [Array.getElem?_eq_none h'] at hh; cases hh
/-- A row's block is no object's. -/
theorem MR.apart {r : Nat → Option (Nat × Nat)} {M : Mem} {w : World} (h : MR r M w) {i j : Nat} {cs : List Value} {o : AOb} {g k : Nat × Nat} (hl : look M.bl i = some cs) (hi : r i = some g) (ho : look M.ob j = some o) (hj : r j = some k) : g.1 ≠ k.1 := by
  intro e
  obtain ⟨g', t, cc, h1, h2, _⟩ := h.blk i cs hl
  obtain ⟨k', x, h3, h4, h5⟩ := h.obj j o ho
  rw [hi] at h1; cases h1
  rw [hj] at h3; cases h3
  rw [e, h4] at h2; cases h2
  exact h5.not_cells
end Ev
end Go.Proofs.YtccjmmdppjialaaGreatDoor
