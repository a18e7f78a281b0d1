/- The evaluator, three texts: A B C D E F G H. No program is named here. -/
import Derived.WalkKit
import Derived.OrdersHeld
import Derived.LoopN
import Derived.Laws.CopyRow
import Derived.Laws.Tables
import Derived.Laws.MakeOwn
import Derived.Laws.AppendOwn
import Derived.Laws.BytesString
/-! ## A -/
namespace Go.Proofs.Ytjinpngojdefiaa
open Go.RowKit
namespace Ev

/-- A value without an address in it (to a depth). -/
def af : Nat → Value → Bool
  | 0, _ => false
  | n + 1, v => match v with
    | .bool _ => true
    | .int _ _ => true
    | .string _ => true
    | .pointer none => true
    | .slice none _ _ => true
    | .nilFunc => true
    | .nilIface => true
    | .map none => true
    | .agg xs => xs.toList.all (af n)
    | .tuple xs => xs.toList.all (af n)
    | .func (.yield _) _ _ => false
    | .func _ xs ys => xs.toList.all (af n) && ys.toList.all (af n)
    | .iface _ u => af n u
    | _ => false

def isYield : Fn → Bool
  | .yield _ => true
  | _ => false
theorem af_func {fn : Fn} (hy : isYield fn = false) (n : Nat) (xs ys : Array Value) : af (n + 1) (.func fn xs ys) = (xs.toList.all (af n) && ys.toList.all (af n)) := by
  cases fn <;> first | rfl | cases hy

/-- What an abstract value says of a value: blocks are renamed, capacities are at least what they are said to be. -/
inductive VR (r : Nat → Option (Nat × Nat)) : Value → Value → Prop
  | same (k : Nat) (v : Value) (h : af k v = true) : VR r v v
  | ptr (b o : Nat) (g : Nat × Nat) (h : r b = some g) : VR r (.pointer (some ⟨b, o, none⟩)) (.pointer (some ⟨g.1, o, none⟩))
  | slice (b o n c c' : Nat) (g : Nat × Nat) (h : r b = some g) (hc : c ≤ c') (ht : c' = c ∨ (0 < b % 64 ∧ o + c' * (b % 64) = g.2) ∨ b % 64 = 63) : VR r (.slice (some ⟨b, o, none⟩) n c) (.slice (some ⟨g.1, o, none⟩) n c')
  | agg (xs ys : Array Value) (hs : xs.size = ys.size) (h : ∀ (i : Nat) x y, xs[i]? = some x → ys[i]? = some y → VR r x y) : VR r (.agg xs) (.agg ys)
  | tuple (xs ys : Array Value) (hs : xs.size = ys.size) (h : ∀ (i : Nat) x y, xs[i]? = some x → ys[i]? = some y → VR r x y) : VR r (.tuple xs) (.tuple ys)
  | func (fn : Fn) (xs ys us vs : Array Value) (hy : isYield fn = false) (hs : xs.size = ys.size) (h : ∀ (i : Nat) x y, xs[i]? = some x → ys[i]? = some y → VR r x y)
      (ht : us.size = vs.size) (h' : ∀ (i : Nat) x y, us[i]? = some x → vs[i]? = some y → VR r x y) : VR r (.func fn xs us) (.func fn ys vs)
  | iface (t : TypeId) (u v : Value) (h : VR r u v) : VR r (.iface t u) (.iface t v)
  | yield (i : Nat) (g : Nat × Nat) (h : r i = some g) : VR r (.func (.yield i) #[] #[]) (.func (.yield g.1) #[] #[])
  | map (i : Nat) (g : Nat × Nat) (h : r i = some g) : VR r (.map (some i)) (.map (some g.1))
  /-- A slice of no elements that is not nil, wherever it is. -/
  | empty (a : Addr) (c : Nat) : VR r (.chan (some 0)) (.slice (some a) 0 c)

theorem VR.mono {r r' : Nat → Option (Nat × Nat)} (hr : ∀ i g, r i = some g → r' i = some g) {v v' : Value} (h : VR r v v') : VR r' v v' := by
  induction h with
  | same k v h => exact .same k v h
  | ptr b o g h => exact .ptr b o g (hr _ _ h)
  | slice b o n c c' g h hc ht => exact .slice b o n c c' g (hr _ _ h) hc ht
  | agg xs ys hs _ ih => exact .agg xs ys hs ih
  | tuple xs ys hs _ ih => exact .tuple xs ys hs ih
  | func fn xs ys us vs hy hs _ ht _ ih ih' => exact .func fn xs ys us vs hy hs ih ht ih'
  | iface t u v _ ih => exact .iface t u v ih
  | yield i g h => exact .yield i g (hr _ _ h)
  | map i g h => exact .map i g (hr _ _ h)
  | empty a c => exact .empty a c

theorem eq_of_rows {xs ys : Array Value} (hs : xs.size = ys.size) (h : ∀ (i : Nat) x y, xs[i]? = some x → ys[i]? = some y → y = x) : ys = xs := by
  apply Array.ext_getElem?
  intro i
  rcases Nat.lt_or_ge i xs.size with hi | hi
  · rw [Array.getElem?_eq_getElem hi, Array.getElem?_eq_getElem (hs ▸ hi)]
    exact congrArg some (h i _ _ (Array.getElem?_eq_getElem hi) (Array.getElem?_eq_getElem (hs ▸ hi)))
  · rw [Array.getElem?_eq_none hi, Array.getElem?_eq_none (hs ▸ hi)]

theorem all_at {p : Value → Bool} {xs : Array Value} (h : xs.toList.all p = true) {i : Nat} {x : Value} (hx : xs[i]? = some x) : p x = true :=
  List.all_eq_true.1 h x (by rw [← Array.getElem?_toList] at hx; exact List.mem_of_getElem? hx)

/-- A value without addresses says which value it is. -/
theorem VR.eq {r : Nat → Option (Nat × Nat)} {v v' : Value} (h : VR r v v') : ∀ {k : Nat}, af k v = true → v' = v := by
  induction h with
  | same => intros; rfl
  | ptr => intro k h; cases k <;> simp [af] at h
  | slice => intro k h; cases k <;> simp [af] at h
  | agg xs ys hs _ ih =>
    intro k h
    cases k with
    | zero => simp [af] at h
    | succ k => rw [eq_of_rows hs fun i x y hx hy => ih i x y hx hy (all_at h hx)]
  | tuple xs ys hs _ ih =>
    intro k h
    cases k with
    | zero => simp [af] at h
    | succ k => rw [eq_of_rows hs fun i x y hx hy => ih i x y hx hy (all_at h hx)]
  | func fn xs ys us vs hy hs _ ht _ ih ih' =>
    intro k h
    cases k with
    | zero => simp [af] at h
    | succ k =>
      rw [af_func hy] at h
      simp only [Bool.and_eq_true] at h
      rw [eq_of_rows hs fun i x y hx hy => ih i x y hx hy (all_at h.1 hx), eq_of_rows ht fun i x y hx hy => ih' i x y hx hy (all_at h.2 hx)]
  | iface t u v _ ih =>
    intro k h
    cases k with
    | zero => simp [af] at h
    | succ k => rw [ih h]
  | yield => intro k h; cases k <;> simp [af] at h
  | map => intro k h; cases k <;> simp [af] at h
  | empty => intro k h; cases k <;> simp [af] at h

theorem VR.bool {r : Nat → Option (Nat × Nat)} {b : Bool} {v : Value} (h : VR r (.bool b) v) : v = .bool b := h.eq (k := 1) rfl
theorem VR.int {r : Nat → Option (Nat × Nat)} {k : IntKind} {n : Int} {v : Value} (h : VR r (.int k n) v) : v = .int k n := h.eq (k := 1) rfl
theorem VR.of_int (r : Nat → Option (Nat × Nat)) (k : IntKind) (n : Int) : VR r (.int k n) (.int k n) := .same 1 _ rfl
theorem VR.of_bool (r : Nat → Option (Nat × Nat)) (b : Bool) : VR r (.bool b) (.bool b) := .same 1 _ rfl
theorem VR.undef (r : Nat → Option (Nat × Nat)) : VR r Go.undef Go.undef := .same 1 _ rfl

/-- Two rows, cell by cell. -/
def LR (r : Nat → Option (Nat × Nat)) (xs ys : List Value) : Prop := xs.length = ys.length ∧ ∀ (i : Nat) x y, xs[i]? = some x → ys[i]? = some y → VR r x y

theorem LR.mono {r r' : Nat → Option (Nat × Nat)} (hr : ∀ i g, r i = some g → r' i = some g) {xs ys : List Value} (h : LR r xs ys) : LR r' xs ys :=
  ⟨h.1, fun i x y hx hy => (h.2 i x y hx hy).mono hr⟩
theorem LR.nil (r : Nat → Option (Nat × Nat)) : LR r [] [] := ⟨rfl, fun i x y hx => by simp at hx⟩
theorem LR.cons {r : Nat → Option (Nat × Nat)} {x y : Value} {xs ys : List Value} (h : VR r x y) (hs : LR r xs ys) : LR r (x :: xs) (y :: ys) :=
  ⟨by simp [hs.1], fun i u v hu hv => by
    cases i with
    | zero => simp at hu hv; subst hu; subst hv; exact h
    | succ i => exact hs.2 i u v (by simpa using hu) (by simpa using hv)⟩
theorem LR.head {r : Nat → Option (Nat × Nat)} {x y : Value} {xs ys : List Value} (h : LR r (x :: xs) (y :: ys)) : VR r x y := h.2 0 x y rfl rfl
theorem LR.tail {r : Nat → Option (Nat × Nat)} {x y : Value} {xs ys : List Value} (h : LR r (x :: xs) (y :: ys)) : LR r xs ys :=
  ⟨by simpa using h.1, fun i u v hu hv => h.2 (i + 1) u v (by simpa using hu) (by simpa using hv)⟩
theorem LR.append {r : Nat → Option (Nat × Nat)} {xs ys us vs : List Value} (h : LR r xs ys) (h' : LR r us vs) : LR r (xs ++ us) (ys ++ vs) := by
  induction xs generalizing ys with
  | nil => cases ys with
    | nil => exact h'
    | cons y ys => exact absurd h.1 (by simp)
  | cons x xs ih => cases ys with
    | nil => exact absurd h.1 (by simp)
    | cons y ys => exact .cons h.head (ih h.tail)
theorem LR.get {r : Nat → Option (Nat × Nat)} {xs ys : List Value} (h : LR r xs ys) {i : Nat} {x : Value} (hx : xs[i]? = some x) : ∃ y, ys[i]? = some y ∧ VR r x y := by
  have hi : i < ys.length := by
    rcases Nat.lt_or_ge i xs.length with h1 | h1
    · exact h.1 ▸ h1
    · rw [List.getElem?_eq_none h1] at hx; cases hx
  exact ⟨ys[i], List.getElem?_eq_getElem hi, h.2 i x _ hx (List.getElem?_eq_getElem hi)⟩
theorem LR.set {r : Nat → Option (Nat × Nat)} {xs ys : List Value} (h : LR r xs ys) (i : Nat) {x y : Value} (hv : VR r x y) : LR r (xs.set i x) (ys.set i y) := by
  refine ⟨by simp [h.1], fun j u v hu hv' => ?_⟩
  by_cases hij : i = j
  · subst hij
    rw [List.getElem?_set_self'] at hu hv'
    cases hx : xs[i]? with
    | none => rw [hx] at hu; simp at hu
    | some _ => cases hy : ys[i]? with
      | none => rw [hy] at hv'; simp at hv'
      | some _ => rw [hx] at hu; rw [hy] at hv'; simp at hu hv'; subst hu; subst hv'; exact hv
  · rw [List.getElem?_set_ne hij] at hu hv'
    exact h.2 j u v hu hv'
theorem LR.of_af {r : Nat → Option (Nat × Nat)} {k : Nat} : ∀ {xs : List Value}, xs.all (af k) = true → LR r xs xs
  | [], _ => .nil r
  | x :: xs, h => by
    simp only [List.all_cons, Bool.and_eq_true] at h
    exact .cons (.same k x h.1) (LR.of_af h.2)
theorem LR.eq {r : Nat → Option (Nat × Nat)} {k : Nat} {xs ys : List Value} (h : LR r xs ys) (ha : xs.all (af k) = true) : ys = xs := by
  induction xs generalizing ys with
  | nil => cases ys with
    | nil => rfl
    | cons y ys => exact absurd h.1 (by simp)
  | cons x xs ih => cases ys with
    | nil => exact absurd h.1 (by simp)
    | cons y ys =>
      simp only [List.all_cons, Bool.and_eq_true] at ha
      rw [h.head.eq ha.1, ih h.tail ha.2]
theorem LR.take {r : Nat → Option (Nat × Nat)} {xs ys : List Value} (h : LR r xs ys) (n : Nat) : LR r (xs.take n) (ys.take n) :=
  ⟨by simp [h.1], fun i x y hx hy => by
    rw [List.getElem?_take] at hx hy
    split at hx
    · rename_i hi; rw [if_pos hi] at hy; exact h.2 i x y hx hy
    · cases hx⟩
theorem LR.drop {r : Nat → Option (Nat × Nat)} {xs ys : List Value} (h : LR r xs ys) (n : Nat) : LR r (xs.drop n) (ys.drop n) :=
  ⟨by simp [h.1], fun i x y hx hy => by rw [List.getElem?_drop] at hx hy; exact h.2 _ x y hx hy⟩

theorem VR.agg' {r : Nat → Option (Nat × Nat)} {xs ys : List Value} (h : LR r xs ys) : VR r (.agg xs.toArray) (.agg ys.toArray) :=
  .agg _ _ (by simpa using h.1) fun i x y hx hy => h.2 i x y (by simpa using hx) (by simpa using hy)
theorem VR.tuple' {r : Nat → Option (Nat × Nat)} {xs ys : List Value} (h : LR r xs ys) : VR r (.tuple xs.toArray) (.tuple ys.toArray) :=
  .tuple _ _ (by simpa using h.1) fun i x y hx hy => h.2 i x y (by simpa using hx) (by simpa using hy)
theorem VR.of_agg {r : Nat → Option (Nat × Nat)} {xs : Array Value} {v : Value} (h : VR r (.agg xs) v) : ∃ ys, v = .agg ys ∧ LR r xs.toList ys.toList := by
  cases h with
  | same k _ h =>
    cases k with
    | zero => simp [af] at h
    | succ k => exact ⟨xs, rfl, LR.of_af (k := k) h⟩
  | agg _ ys hs h => exact ⟨ys, rfl, by simpa using hs, fun i x y hx hy => h i x y (by simpa using hx) (by simpa using hy)⟩
theorem VR.of_tuple {r : Nat → Option (Nat × Nat)} {xs : Array Value} {v : Value} (h : VR r (.tuple xs) v) : ∃ ys, v = .tuple ys ∧ LR r xs.toList ys.toList := by
  cases h with
  | same k _ h =>
    cases k with
    | zero => simp [af] at h
    | succ k => exact ⟨xs, rfl, LR.of_af (k := k) h⟩
  | tuple _ ys hs h => exact ⟨ys, rfl, by simpa using hs, fun i x y hx hy => h i x y (by simpa using hx) (by simpa using hy)⟩
theorem VR.of_func {r : Nat → Option (Nat × Nat)} {fn : Fn} {xs us : Array Value} {v : Value} (hy : isYield fn = false) (h : VR r (.func fn xs us) v) : ∃ ys vs, v = .func fn ys vs ∧ LR r xs.toList ys.toList ∧ LR r us.toList vs.toList := by
  cases h with
  | same k _ h =>
    cases k with
    | zero => simp [af] at h
    | succ k =>
      rw [af_func hy] at h
      simp only [Bool.and_eq_true] at h
      exact ⟨xs, us, rfl, LR.of_af (k := k) h.1, LR.of_af (k := k) h.2⟩
  | func _ _ ys _ vs _ hs h ht h' =>
    exact ⟨ys, vs, rfl, ⟨by simpa using hs, fun i x y hx hy => h i x y (by simpa using hx) (by simpa using hy)⟩, ⟨by simpa using ht, fun i x y hx hy => h' i x y (by simpa using hx) (by simpa using hy)⟩⟩
  | yield => cases hy
theorem VR.of_yield {r : Nat → Option (Nat × Nat)} {i : Nat} {xs us : Array Value} {v : Value} (h : VR r (.func (.yield i) xs us) v) : ∃ g, r i = some g ∧ v = .func (.yield g.1) #[] #[] := by
  cases h with
  | same k _ h => cases k <;> simp [af] at h
  | func _ _ _ _ _ hy => cases hy
  | yield _ g h => exact ⟨g, h, rfl⟩
theorem VR.of_map {r : Nat → Option (Nat × Nat)} {i : Nat} {v : Value} (h : VR r (.map (some i)) v) : ∃ g, r i = some g ∧ v = .map (some g.1) := by
  cases h with
  | same k _ h => cases k <;> simp [af] at h
  | map _ g h => exact ⟨g, h, rfl⟩
theorem VR.func' {r : Nat → Option (Nat × Nat)} (fn : Fn) (hy : isYield fn = false) {xs ys us vs : List Value} (h : LR r xs ys) (h' : LR r us vs) : VR r (.func fn xs.toArray us.toArray) (.func fn ys.toArray vs.toArray) :=
  .func fn _ _ _ _ hy (by simpa using h.1) (fun i x y hx hy => h.2 i x y (by simpa using hx) (by simpa using hy)) (by simpa using h'.1) (fun i x y hx hy => h'.2 i x y (by simpa using hx) (by simpa using hy))
theorem VR.of_ptr {r : Nat → Option (Nat × Nat)} {a : Addr} {v : Value} (h : VR r (.pointer (some a)) v) : a.spot = none ∧ ∃ g, r a.block = some g ∧ v = .pointer (some ⟨g.1, a.off, none⟩) := by
  cases h with
  | same k _ h => cases k <;> simp [af] at h
  | ptr b o g h => exact ⟨rfl, g, h, rfl⟩
theorem VR.of_slice {r : Nat → Option (Nat × Nat)} {a : Addr} {n c : Nat} {v : Value} (h : VR r (.slice (some a) n c) v) : a.spot = none ∧ ∃ g c', r a.block = some g ∧ c ≤ c' ∧ (c' = c ∨ (0 < a.block % 64 ∧ a.off + c' * (a.block % 64) = g.2) ∨ a.block % 64 = 63) ∧ v = .slice (some ⟨g.1, a.off, none⟩) n c' := by
  cases h with
  | same k _ h => cases k <;> simp [af] at h
  | slice b o n c c' g h hc ht => exact ⟨rfl, g, c', h, hc, ht, rfl⟩

/-! ### The temporaries: a tree of values, a path for each number. -/
inductive Tr where
  | e
  | nd (v : Value) (l r : Tr)
def pth : Nat → Nat → List Bool
  | 0, _ => []
  | k + 1, n => match n with
    | 0 => []
    | m + 1 => Nat.beq (m % 2) 1 :: pth k (m / 2)
def pathOf (n : Nat) : List Bool := pth n n
def unpath : List Bool → Nat
  | [] => 0
  | b :: p => 2 * unpath p + (if b then 2 else 1)
theorem unpath_pth : ∀ k n, n ≤ k → unpath (pth k n) = n
  | 0, n, h => by simp [pth, unpath]; omega
  | k + 1, n, h => by
    cases n with
    | zero => rfl
    | succ m =>
      simp only [pth, unpath, unpath_pth k (m / 2) (by omega)]
      cases hb : Nat.beq (m % 2) 1 with
      | true => have := Nat.eq_of_beq_eq_true hb; simp only [if_true]; omega
      | false =>
        have : ¬ m % 2 = 1 := fun e => by rw [e] at hb; cases hb
        simp only [Bool.false_eq_true, if_false]; omega
theorem pathOf_inj {i j : Nat} (h : pathOf i = pathOf j) : i = j := by
  have h1 := unpath_pth i i (Nat.le_refl _)
  have h2 := unpath_pth j j (Nat.le_refl _)
  unfold pathOf at h
  rw [h] at h1
  omega
def getT : List Bool → Tr → Value
  | [], t => match t with
    | .nd v _ _ => v
    | .e => Go.undef
  | b :: p, t => match t with
    | .nd _ l r => bif b then getT p r else getT p l
    | .e => Go.undef
def setT : List Bool → Value → Tr → Tr
  | [], v, t => match t with
    | .nd _ l r => .nd v l r
    | .e => .nd v .e .e
  | b :: p, v, t => match t with
    | .nd u l r => bif b then .nd u l (setT p v r) else .nd u (setT p v l) r
    | .e => bif b then .nd Go.undef .e (setT p v .e) else .nd Go.undef (setT p v .e) .e
theorem getT_e (p : List Bool) : getT p .e = Go.undef := by cases p <;> rfl
theorem get_set : ∀ (q p : List Bool) (v : Value) (t : Tr), getT p (setT q v t) = if p = q then v else getT p t
  | [], p, v, t => by
    cases p with
    | nil => cases t <;> rfl
    | cons b p => cases t <;> simp [setT, getT, getT_e]
  | b :: q, p, v, t => by
    cases p with
    | nil => cases t <;> cases b <;> simp [setT, getT]
    | cons c p =>
      have ih := get_set q p v
      cases t <;> cases b <;> cases c <;> simp [setT, getT, getT_e, ih]
/-- A deferred call, or the mark that a range over a function leaves. -/
inductive ADf where
  | mark (i : Nat)
  | call (f : FuncId) (xs : List Value)
structure Env where
  n : Nat
  t : Tr
  gs : List Nat
  ds : List ADf
  rd : Bool
def Env.get (env : Env) (i : Nat) : Value := getT (pathOf i) env.t
def Env.set (env : Env) (i : Nat) (v : Value) : Env := bif Nat.blt i env.n then { n := env.n, t := setT (pathOf i) v env.t, gs := env.gs, ds := env.ds, rd := env.rd } else env
def fillT : Nat → List Value → Tr → Tr
  | _, [], t => t
  | i, x :: xs, t => fillT (i + 1) xs (setT (pathOf i) x t)
def mkEnv (gs : List Nat) (n : Nat) (xs : List Value) : Env := { n := xs.length + (n - xs.length), t := fillT 0 xs .e, gs := gs, ds := [], rd := false }
theorem get_fill : ∀ (xs : List Value) (i j : Nat) (t : Tr), getT (pathOf j) (fillT i xs t) = if i ≤ j ∧ j < i + xs.length then xs.getD (j - i) Go.undef else getT (pathOf j) t
  | [], i, j, t => by rw [if_neg (by simp)]; rfl
  | x :: xs, i, j, t => by
    simp only [fillT, get_fill xs (i + 1) j, get_set, List.length_cons]
    by_cases hij : i = j
    · subst hij
      rw [if_neg (by omega), if_pos rfl, if_pos ⟨Nat.le_refl _, by omega⟩]
      simp
    · rw [if_neg (fun e => hij (pathOf_inj e).symm)]
      by_cases h : i + 1 ≤ j ∧ j < i + 1 + xs.length
      · rw [if_pos h, if_pos (by omega)]
        have : j - i = (j - (i + 1)) + 1 := by omega
        rw [this]; simp
      · rw [if_neg h, if_neg (by omega)]

/-- What the temporaries are said to be. -/
structure ER (r : Nat → Option (Nat × Nat)) (env : Env) (tmps : Array Value) : Prop where
  size : tmps.size = env.n
  val : ∀ i, VR r (env.get i) (tmps.getD i Go.undef)
  glob : ∀ g ∈ env.gs, ∃ s, r (64 * g) = some (g, s)
theorem ER.mono {r r' : Nat → Option (Nat × Nat)} (hr : ∀ i g, r i = some g → r' i = some g) {env : Env} {tmps : Array Value} (h : ER r env tmps) : ER r' env tmps :=
  ⟨h.1, fun i => (h.2 i).mono hr, fun g hg => let ⟨s, hs⟩ := h.3 g hg; ⟨s, hr _ _ hs⟩⟩
theorem Env.set_ds (env : Env) (i : Nat) (v : Value) : (env.set i v).ds = env.ds := by unfold Env.set; cases Nat.blt i env.n <;> rfl
theorem Env.set_rd (env : Env) (i : Nat) (v : Value) : (env.set i v).rd = env.rd := by unfold Env.set; cases Nat.blt i env.n <;> rfl
theorem ER.set {r : Nat → Option (Nat × Nat)} {env : Env} {tmps : Array Value} (h : ER r env tmps) (i : Nat) {v v' : Value} (hv : VR r v v') : ER r (env.set i v) (tmps.setIfInBounds i v') := by
  unfold Env.set
  cases hb : Nat.blt i env.n with
  | false =>
    have hi : ¬ i < tmps.size := fun hlt => by
      rw [h.1] at hlt
      have : Nat.blt i env.n = true := Nat.ble_eq_true_of_le hlt
      rw [this] at hb; cases hb
    have : tmps.setIfInBounds i v' = tmps := by
      apply Array.ext_getElem?
      intro j
      rw [Array.getElem?_setIfInBounds]
      split
      · rename_i e; subst e; first | exact (Array.getElem?_eq_none (by omega)).symm | (rw [if_neg hi]; exact (Array.getElem?_eq_none (by omega)).symm)
      · rfl
    rw [this]; exact h
  | true =>
    have hlt : i < env.n := Nat.le_of_ble_eq_true hb
    refine ⟨by simpa using h.1, fun j => ?_, h.3⟩
    simp only [cond_true, Env.get, get_set]
    by_cases hij : j = i
    · subst hij
      rw [if_pos rfl]
      have hs : j < tmps.size := by rw [h.1]; exact hlt
      simp [Array.getD_eq_getD_getElem?, hs]
      exact hv
    · rw [if_neg (fun e => hij (pathOf_inj e))]
      have := h.2 j
      simp only [Array.getD_eq_getD_getElem?, Array.getElem?_setIfInBounds, if_neg (Ne.symm hij)]
      simpa [Array.getD_eq_getD_getElem?, Env.get] using this
theorem ER.made {r : Nat → Option (Nat × Nat)} {xs ys : List Value} (h : LR r xs ys) (n : Nat) {gs : List Nat} (hg : ∀ g ∈ gs, ∃ s, r (64 * g) = some (g, s)) : ER r (mkEnv gs n xs) (ys.toArray ++ Array.replicate (n - ys.toArray.size) Go.undef) := by
  refine ⟨by simp [mkEnv, h.1], fun j => ?_, hg⟩
  simp only [Env.get, mkEnv, get_fill, Nat.zero_le, true_and, Nat.zero_add, Nat.sub_zero, getT_e]
  have hl := h.1
  rcases Nat.lt_or_ge j xs.length with hj | hj
  · rw [if_pos hj]
    obtain ⟨y, h1, h2⟩ := h.get (List.getElem?_eq_getElem hj)
    have hjy : j < ys.length := by omega
    simp only [List.getD_eq_getElem?_getD, List.getElem?_eq_getElem hj, Option.getD_some, Array.getD_eq_getD_getElem?, Array.getElem?_append, List.size_toArray, if_pos hjy, List.getElem?_toArray, h1]
    exact h2
  · rw [if_neg (by omega)]
    have : (ys.toArray ++ Array.replicate (n - ys.toArray.size) Go.undef).getD j Go.undef = Go.undef := by
      simp only [Array.getD_eq_getD_getElem?, Array.getElem?_append, List.size_toArray, if_neg (show ¬ j < ys.length by omega), Array.getElem?_replicate]
      split <;> rfl
    rw [this]
    exact .undef r

/-- A value of which nothing is said. -/
def isU : Value → Bool
  | .chan none => true
  | _ => false
/-- The same, but of some temporaries nothing is said: where a region panicked. -/
structure EW (r : Nat → Option (Nat × Nat)) (env : Env) (tmps : Array Value) : Prop where
  size : tmps.size = env.n
  val : ∀ i, isU (env.get i) = true ∨ VR r (env.get i) (tmps.getD i Go.undef)
  glob : ∀ g ∈ env.gs, ∃ s, r (64 * g) = some (g, s)
theorem ER.weak {r : Nat → Option (Nat × Nat)} {env : Env} {tmps : Array Value} (h : ER r env tmps) : EW r env tmps := ⟨h.1, fun i => .inr (h.2 i), h.3⟩
theorem EW.mono {r r' : Nat → Option (Nat × Nat)} (hr : ∀ i g, r i = some g → r' i = some g) {env : Env} {tmps : Array Value} (h : EW r env tmps) : EW r' env tmps :=
  ⟨h.1, fun i => (h.2 i).imp id fun k => k.mono hr, fun g hg => let ⟨s, hs⟩ := h.3 g hg; ⟨s, hr _ _ hs⟩⟩
/-- What is said at an exit. -/
def EX (e : Exit) (r : Nat → Option (Nat × Nat)) (env : Env) (tmps : Array Value) : Prop := match e with
  | .panic _ => EW r env tmps
  | _ => ER r env tmps
theorem EX.of {e : Exit} {r : Nat → Option (Nat × Nat)} {env : Env} {tmps : Array Value} (h : ER r env tmps) : EX e r env tmps := by
  cases e <;> first | exact h | exact h.weak
theorem EX.weak {e : Exit} {r : Nat → Option (Nat × Nat)} {env : Env} {tmps : Array Value} (h : EX e r env tmps) : EW r env tmps := by
  cases e <;> first | exact h | exact ER.weak h
theorem EX.mono {e : Exit} {r r' : Nat → Option (Nat × Nat)} (hr : ∀ i g, r i = some g → r' i = some g) {env : Env} {tmps : Array Value} (h : EX e r env tmps) : EX e r' env tmps := by
  cases e <;> first | exact EW.mono hr h | exact ER.mono hr h
/-- The temporaries in question said to be anything. -/
def Env.lose (env : Env) (i : Nat) : Env := env.set i (.chan none)
theorem Env.lose_n (env : Env) (i : Nat) : (env.lose i).n = env.n := by unfold Env.lose Env.set; cases Nat.blt i env.n <;> rfl
theorem Env.lose_gs (env : Env) (i : Nat) : (env.lose i).gs = env.gs := by unfold Env.lose Env.set; cases Nat.blt i env.n <;> rfl
theorem Env.lose_ds (env : Env) (i : Nat) : (env.lose i).ds = env.ds := by unfold Env.lose Env.set; cases Nat.blt i env.n <;> rfl
theorem Env.lose_rd (env : Env) (i : Nat) : (env.lose i).rd = env.rd := by unfold Env.lose Env.set; cases Nat.blt i env.n <;> rfl
theorem Env.lose_get (env : Env) (i j : Nat) : (env.lose i).get j = if j = i ∧ i < env.n then .chan none else env.get j := by
  unfold Env.lose Env.set
  cases hb : Nat.blt i env.n with
  | false =>
    have : ¬ i < env.n := fun hlt => by
      have h1 : Nat.blt i env.n = true := Nat.ble_eq_true_of_le hlt
      rw [h1] at hb; cases hb
    rw [if_neg (fun h => this h.2)]
    rfl
  | true =>
    have hlt : i < env.n := Nat.le_of_ble_eq_true hb
    simp only [cond_true, Env.get, get_set]
    by_cases hij : j = i
    · subst hij; rw [if_pos rfl, if_pos ⟨rfl, hlt⟩]
    · rw [if_neg (fun e => hij (pathOf_inj e)), if_neg (fun h => hij h.1)]
theorem EW.lose {r : Nat → Option (Nat × Nat)} {env : Env} {tmps : Array Value} (h : EW r env tmps) (i : Nat) : EW r (env.lose i) tmps :=
  ⟨by rw [Env.lose_n]; exact h.1, fun j => by
    rw [Env.lose_get]
    split
    · exact .inl rfl
    · exact h.2 j, by rw [Env.lose_gs]; exact h.3⟩

/-! ### Memory: the blocks that are known, the newest first; blocks from 'lo' on may be written. -/
/-- What is no row: the mark's block, a loop's record, a map. -/
inductive AOb where
  | defd
  | loop (st : LoopState) (pend : Option Code) (env : Env) (ps : List Tmp) (as bd : Code)
  | map (es : List (Value × Value))
  | iter (s : ByteArray) (pos : Nat)
structure Mem where
  next : Nat
  lo : Nat
  bl : List (Nat × List Value)
  gl : List (Nat × List Value)
  ob : List (Nat × AOb)

theorem beq_ne {i j : Nat} (h : ¬ i = j) : Nat.beq i j = false := by
  cases hb : Nat.beq i j with
  | false => rfl
  | true => exact absurd (Nat.eq_of_beq_eq_true hb) h

def look {α : Type} : List (Nat × α) → Nat → Option α
  | [], _ => none
  | p :: r, j => bif Nat.beq p.1 j then some p.2 else look r j
def upd {α : Type} : List (Nat × α) → Nat → α → List (Nat × α)
  | [], _, _ => []
  | p :: r, j, c => bif Nat.beq p.1 j then (p.1, c) :: r else p :: upd r j c
def kill {α : Type} : List (Nat × α) → Nat → List (Nat × α)
  | [], _ => []
  | p :: r, j => bif Nat.beq p.1 j then kill r j else p :: kill r j

theorem look_cons {α : Type} (i j : Nat) (c : α) (r : List (Nat × α)) : look ((i, c) :: r) j = if i = j then some c else look r j := by
  show (bif Nat.beq i j then some c else look r j) = _
  by_cases h : i = j
  · subst h; rw [if_pos rfl]; have : Nat.beq i i = true := by simp
    rw [this]; rfl
  · rw [if_neg h]; have : Nat.beq i j = false := beq_ne h
    rw [this]; rfl
theorem look_upd {α : Type} : ∀ (r : List (Nat × α)) (i j : Nat) (c : α), look (upd r i c) j = if i = j then (look r i).map fun _ => c else look r j
  | [], i, j, c => by simp [upd, look]
  | (k, d) :: r, i, j, c => by
    have ih := look_upd r i j c
    show look (bif Nat.beq k i then (k, c) :: r else (k, d) :: upd r i c) j = _
    by_cases h : k = i
    · subst h
      have : Nat.beq k k = true := by simp
      rw [this]; simp only [cond_true, look_cons]
      by_cases h' : k = j <;> simp [h']
    · have hb : Nat.beq k i = false := beq_ne h
      rw [hb]; simp only [cond_false, look_cons, ih, if_neg h]
      by_cases h' : k = j
      · subst h'; rw [if_pos rfl, if_neg (Ne.symm h)]; simp
      · simp [h']
theorem look_kill {α : Type} : ∀ (r : List (Nat × α)) (i j : Nat), look (kill r i) j = if i = j then none else look r j
  | [], i, j => by simp [kill, look]
  | (k, d) :: r, i, j => by
    have ih := look_kill r i j
    show look (bif Nat.beq k i then kill r i else (k, d) :: kill r i) j = _
    by_cases h : k = i
    · subst h
      have : Nat.beq k k = true := by simp
      rw [this]; simp only [cond_true, look_cons, ih]
      by_cases h' : k = j <;> simp [h']
    · have hb : Nat.beq k i = false := beq_ne h
      rw [hb]; simp only [cond_false, look_cons, ih]
      by_cases h' : k = j
      · subst h'; simp [Ne.symm h]
      · simp [h']
theorem look_append {α : Type} (p q : List (Nat × α)) (j : Nat) : look (p ++ q) j = (look p j).or (look q j) := by
  induction p with
  | nil => simp [look]
  | cons x p ih =>
    obtain ⟨i, c⟩ := x
    simp only [List.cons_append, look_cons, ih]
    split <;> simp

/-- A map's entries. -/
def EntsR (r : Nat → Option (Nat × Nat)) : List (Value × Value) → List MapEntry → Prop
  | [], [] => True
  | p :: es, e :: l => (e.key = p.1 ∧ VR r p.2 e.val) ∧ EntsR r es l
  | _, _ => False
theorem EntsR.mono {r r' : Nat → Option (Nat × Nat)} (hr : ∀ i g, r i = some g → r' i = some g) : ∀ {es : List (Value × Value)} {l : List MapEntry}, EntsR r es l → EntsR r' es l
  | [], [], _ => trivial
  | _ :: _, _ :: _, h => ⟨⟨h.1.1, h.1.2.mono hr⟩, EntsR.mono hr h.2⟩
/-- What is said of an object that is no row. -/
def OB (r : Nat → Option (Nat × Nat)) : AOb → Obj → Prop
  | .defd, h => h = .deferred (some [])
  | .loop st pend env ps as bd, h => ∃ fn tmps dl, h = .loop { state := st, pending := pend, fn, tmps, params := ps.toArray, assign := as, body := bd, defers := dl } ∧ ER r env tmps
  | .map es, h => ∃ ents clock, h = .map ents clock ∧ EntsR r es ents.toList
  | .iter s pos, h => h = .stringIter s pos
theorem OB.mono {r r' : Nat → Option (Nat × Nat)} (hr : ∀ i g, r i = some g → r' i = some g) {o : AOb} {h : Obj} (ho : OB r o h) : OB r' o h := by
  cases o with
  | defd => exact ho
  | loop st pend env ps as bd => obtain ⟨fn, tmps, dl, e, he⟩ := ho; exact ⟨fn, tmps, dl, e, he.mono hr⟩
  | map es => obtain ⟨ents, clock, e, hs⟩ := ho; exact ⟨ents, clock, e, hs.mono hr⟩
  | iter s pos => exact ho
theorem OB.not_cells {r : Nat → Option (Nat × Nat)} {o : AOb} {cc : Array Value} {t : TypeId} {f : Nat × Nat} (h : OB r o (.cells cc t f)) : False := by
  cases o with
  | defd => cases h
  | loop st pend env ps as bd => obtain ⟨_, _, _, e, _⟩ := h; cases e
  | map es => obtain ⟨_, _, e, _⟩ := h; cases e
  | iter s pos => cases h

structure MR (r : Nat → Option (Nat × Nat)) (M : Mem) (w : World) : Prop where
  blk : ∀ i cs, look M.bl i = some cs → ∃ g t cc, r i = some g ∧ w.heap[g.1]? = some (.cells cc t (0, 0)) ∧ (0 < i % 64 → cc.size = g.2) ∧ ∀ (j : Nat) v, cs[j]? = some v → ∃ v', cc[j]? = some v' ∧ VR r v v'
  inj : ∀ i j cs ds g h, look M.bl i = some cs → look M.bl j = some ds → r i = some g → r j = some h → g.1 = h.1 → i = j
  bound : ∀ i g, r i = some g → i < 64 * M.next
  glob : ∀ i cs, look M.gl i = some cs → i < M.lo ∧ look M.bl i = some cs ∧ (∃ s, r i = some (i / 64, s)) ∧ cs.all (af 1) = true
  obj : ∀ i o, look M.ob i = some o → ∃ g h, r i = some g ∧ w.heap[g.1]? = some h ∧ OB r o h
  injO : ∀ i j o p g h, look M.ob i = some o → look M.ob j = some p → r i = some g → r j = some h → g.1 = h.1 → i = j

/-- From one state to a later one. -/
structure Stp (r : Nat → Option (Nat × Nat)) (M : Mem) (w : World) (r' : Nat → Option (Nat × Nat)) (M' : Mem) (w' : World) : Prop where
  ext : ∀ i g, r i = some g → r' i = some g
  lo : M'.lo = M.lo
  next : M.next ≤ M'.next
  old : ∀ i cs, look M'.bl i = some cs → i < 64 * M.next → ∃ ds, look M.bl i = some ds
  os : w'.os = w.os
  tape : w'.tape = w.tape
  output : w'.output = w.output
  size : w.heap.size ≤ w'.heap.size
  keep : ∀ k, k < w.heap.size → (∀ i cs g, M.lo ≤ i → look M.bl i = some cs → r i = some g → g.1 ≠ k) → (∀ i o g, look M.ob i = some o → r i = some g → g.1 ≠ k) → w'.heap[k]? = w.heap[k]?
  anc : ∀ i cs g, M'.lo ≤ i → look M'.bl i = some cs → r' i = some g → g.1 < w.heap.size → ∃ j ds h, M.lo ≤ j ∧ look M.bl j = some ds ∧ r j = some h ∧ h.1 = g.1
  gl : M'.gl = M.gl
  ancO : ∀ i o g, look M'.ob i = some o → r' i = some g → g.1 < w.heap.size → ∃ j p h, look M.ob j = some p ∧ r j = some h ∧ h.1 = g.1

theorem Stp.refl (r : Nat → Option (Nat × Nat)) (M : Mem) (w : World) : Stp r M w r M w :=
  ⟨fun _ _ h => h, rfl, Nat.le_refl _, fun _ cs h _ => ⟨cs, h⟩, rfl, rfl, rfl, Nat.le_refl _, fun _ _ _ _ => rfl, fun i cs g h1 h2 h3 _ => ⟨i, cs, g, h1, h2, h3, rfl⟩, rfl, fun i o g h1 h2 _ => ⟨i, o, g, h1, h2, rfl⟩⟩
theorem Stp.trans {r r' r'' : Nat → Option (Nat × Nat)} {M M' M'' : Mem} {w w' w'' : World} (h : Stp r M w r' M' w') (k : Stp r' M' w' r'' M'' w'') : Stp r M w r'' M'' w'' where
  ext i g hi := k.ext i g (h.ext i g hi)
  lo := k.lo.trans h.lo
  next := Nat.le_trans h.next k.next
  old i cs hl hi := by
    have := h.next
    obtain ⟨ds, h1⟩ := k.old i cs hl (by omega)
    exact h.old i ds h1 hi
  os := k.os.trans h.os
  tape := k.tape.trans h.tape
  output := k.output.trans h.output
  size := Nat.le_trans h.size k.size
  keep k' hg hn hn' := by
    rw [k.keep k' (Nat.lt_of_lt_of_le hg h.size) (fun i cs g hlo hl hi e => ?_) (fun i o g hl hi e => ?_), h.keep k' hg hn hn']
    · obtain ⟨j, ds, g', h1, h2, h3, h4⟩ := h.anc i cs g hlo hl hi (by omega)
      exact hn j ds g' h1 h2 h3 (h4.trans e)
    · obtain ⟨j, p, g', h2, h3, h4⟩ := h.ancO i o g hl hi (by omega)
      exact hn' j p g' h2 h3 (h4.trans e)
  anc i cs g hlo hl hi hg := by
    obtain ⟨j, ds, g', h1, h2, h3, h4⟩ := k.anc i cs g hlo hl hi (Nat.lt_of_lt_of_le hg h.size)
    obtain ⟨j', ds', g'', h1', h2', h3', h4'⟩ := h.anc j ds g' h1 h2 h3 (by omega)
    exact ⟨j', ds', g'', h1', h2', h3', h4'.trans h4⟩
  gl := k.gl.trans h.gl
  ancO i o g hl hi hg := by
    obtain ⟨j, p, g', h2, h3, h4⟩ := k.ancO i o g hl hi (Nat.lt_of_lt_of_le hg h.size)
    obtain ⟨j', p', g'', h2', h3', h4'⟩ := h.ancO j p g' h2 h3 (by omega)
    exact ⟨j', p', g'', h2', h3', h4'.trans h4⟩
theorem MR.lt {r : Nat → Option (Nat × Nat)} {M : Mem} {w : World} (h : MR r M w) {i : Nat} {g : Nat × Nat} {cs : List Value} (hl : look M.bl i = some cs) (hi : r i = some g) : g.1 < w.heap.size := by
  obtain ⟨g', t, cc, hg', hh, _⟩ := h.blk i cs hl
  rw [hi] at hg'; cases hg'
  rcases Nat.lt_or_ge g.1 w.heap.size with h' | h'
  · exact h'
  · rw [Array.getElem?_eq_none h'] at hh; cases hh
theorem MR.ltO {r : Nat → Option (Nat × Nat)} {M : Mem} {w : World} (h : MR r M w) {i : Nat} {g : Nat × Nat} {o : AOb} (hl : look M.ob i = some o) (hi : r i = some g) : g.1 < w.heap.size := by
  obtain ⟨g', x, hg', hh, _⟩ := h.obj i o hl
  rw [hi] at hg'; cases hg'
  rcases Nat.lt_or_ge g.1 w.heap.size with h' | h'
  · exact h'
  · rw [Array.getElem?_eq_none h'] at hh; cases hh
/-- A row's block is no object's. -/
theorem MR.apart {r : Nat → Option (Nat × Nat)} {M : Mem} {w : World} (h : MR r M w) {i j : Nat} {cs : List Value} {o : AOb} {g k : Nat × Nat} (hl : look M.bl i = some cs) (hi : r i = some g) (ho : look M.ob j = some o) (hj : r j = some k) : g.1 ≠ k.1 := by
  intro e
  obtain ⟨g', t, cc, h1, h2, _⟩ := h.blk i cs hl
  obtain ⟨k', x, h3, h4, h5⟩ := h.obj j o ho
  rw [hi] at h1; cases h1
  rw [hj] at h3; cases h3
  rw [e, h4] at h2; cases h2
  exact h5.not_cells
end Ev
end Go.Proofs.Ytjinpngojdefiaa
/-! ## B -/
namespace Go.Proofs.Ytjinpngojdefiaa
open Go.RowKit
namespace Ev

theorem MR.of_heap {r : Nat → Option (Nat × Nat)} {M : Mem} {w w' : World} (h : MR r M w) (hh : w'.heap = w.heap) : MR r M w' :=
  ⟨fun i cs hl => by obtain ⟨g, t, cc, h1, h2, h3⟩ := h.blk i cs hl; exact ⟨g, t, cc, h1, by rw [hh]; exact h2, h3⟩, h.inj, h.bound, h.glob, fun i o hl => by obtain ⟨g, x, h1, h2, h3⟩ := h.obj i o hl; exact ⟨g, x, h1, by rw [hh]; exact h2, h3⟩, h.injO⟩
theorem Stp.drew (r : Nat → Option (Nat × Nat)) (M : Mem) (w : World) : Stp r M w r M w.drew :=
  ⟨fun _ _ h => h, rfl, Nat.le_refl _, fun _ cs h _ => ⟨cs, h⟩, rfl, rfl, rfl, Nat.le_refl _, fun _ _ _ _ => rfl, fun i cs g h1 h2 h3 _ => ⟨i, cs, g, h1, h2, h3, rfl⟩, rfl, fun i o g h1 h2 _ => ⟨i, o, g, h1, h2, rfl⟩⟩

/-- Fewer blocks known: a weaker word. -/
theorem MR.fewer {r : Nat → Option (Nat × Nat)} {M : Mem} {w : World} (h : MR r M w) {bl : List (Nat × List Value)} (hb : ∀ i cs, look bl i = some cs → look M.bl i = some cs) : MR r { M with bl := bl, gl := [], ob := [] } w :=
  ⟨fun i cs hl => h.blk i cs (hb i cs hl), fun i j cs ds g g' h1 h2 => h.inj i j cs ds g g' (hb _ _ h1) (hb _ _ h2), h.bound, fun _ _ hl => (by cases hl), fun _ _ hl => (by cases hl), fun _ _ _ _ _ _ hl => (by cases hl)⟩
theorem MR.sub {r : Nat → Option (Nat × Nat)} {M : Mem} {w : World} (h : MR r M w) {bl : List (Nat × List Value)} (hb : ∀ i cs, look bl i = some cs → look M.bl i = some cs) (hg : ∀ i cs, look M.gl i = some cs → look bl i = some cs) : MR r { M with bl := bl } w :=
  ⟨fun i cs hl => h.blk i cs (hb i cs hl), fun i j cs ds g g' h1 h2 => h.inj i j cs ds g g' (hb _ _ h1) (hb _ _ h2), h.bound, fun i cs hl => ⟨(h.glob i cs hl).1, hg i cs hl, (h.glob i cs hl).2.2⟩, h.obj, h.injO⟩
theorem Stp.fewer {r r' : Nat → Option (Nat × Nat)} {M M' : Mem} {w w' : World} (h : Stp r M w r' M' w') {bl : List (Nat × List Value)} (hb : ∀ i cs, look bl i = some cs → look M'.bl i = some cs) : Stp r M w r' { M' with bl := bl } w' :=
  ⟨h.ext, h.lo, h.next, fun i cs h1 => h.old i cs (hb _ _ h1), h.os, h.tape, h.output, h.size, h.keep, fun i cs g h1 h2 => h.anc i cs g h1 (hb _ _ h2), h.gl, h.ancO⟩

/-! ### A new block. -/
def Mem.newZ (M : Mem) (z : Nat) (cs : List Value) : Mem := { M with next := M.next + 1, bl := (64 * M.next + z, cs) :: M.bl }
def Mem.new (M : Mem) (cs : List Value) : Mem := M.newZ 0 cs
def more (r : Nat → Option (Nat × Nat)) (i : Nat) (g : Nat × Nat) : Nat → Option (Nat × Nat) := fun j => if j = i then some g else r j

theorem more_self (r : Nat → Option (Nat × Nat)) (i : Nat) (g : Nat × Nat) : more r i g i = some g := by simp [more]
theorem more_ext {r : Nat → Option (Nat × Nat)} {k : Nat} (hb : ∀ i g, r i = some g → i ≠ k) (g : Nat × Nat) : ∀ i h, r i = some h → more r k g i = some h := fun i h hi => by
  have := hb i h hi
  unfold more
  rw [if_neg this]
  exact hi

theorem MR.ne {r : Nat → Option (Nat × Nat)} {M : Mem} {w : World} (h : MR r M w) (z : Nat) : ∀ i g, r i = some g → i ≠ 64 * M.next + z := fun i g hi e => by
  have := h.bound i g hi; omega

theorem new_sound {r : Nat → Option (Nat × Nat)} {M : Mem} {w w' : World} (hM : MR r M w) {cs : List Value} {cc : Array Value} {t : TypeId} (z T : Nat) (hz : z < 64) (hT : 0 < z → cc.size = T)
    (hrel : ∀ (j : Nat) v, cs[j]? = some v → ∃ v', cc[j]? = some v' ∧ VR r v v') (hw : w'.heap = w.heap.push (.cells cc t (0, 0))) (ho : w'.os = w.os) (ht : w'.tape = w.tape) (hu : w'.output = w.output) :
    MR (more r (64 * M.next + z) (w.heap.size, T)) (M.newZ z cs) w' ∧ Stp r M w (more r (64 * M.next + z) (w.heap.size, T)) (M.newZ z cs) w' := by
  have hext := more_ext (hM.ne z) (w.heap.size, T)
  have hself := more_self r (64 * M.next + z) (w.heap.size, T)
  have hold : ∀ g, g < w.heap.size → w'.heap[g]? = w.heap[g]? := fun g hg => by
    rw [hw, Array.getElem?_push, if_neg (by omega)]
  refine ⟨⟨?_, ?_, ?_, ?_, ?_, ?_⟩, ⟨hext, rfl, Nat.le_succ _, fun i cs hl hi => ⟨cs, by simp only [Mem.newZ, look_cons] at hl; rwa [if_neg (by omega)] at hl⟩, ho, ht, hu, by rw [hw]; simp, fun g hg _ _ => hold g hg, ?_, rfl, ?_⟩⟩
  · intro i ds hl
    simp only [Mem.newZ, look_cons] at hl
    by_cases hi : 64 * M.next + z = i
    · subst hi
      rw [if_pos rfl] at hl
      cases hl
      refine ⟨(w.heap.size, T), t, cc, hself, by rw [hw]; simp, fun h0 => hT (by omega), fun j v hv => ?_⟩
      obtain ⟨v', h1, h2⟩ := hrel j v hv
      exact ⟨v', h1, h2.mono hext⟩
    · rw [if_neg hi] at hl
      obtain ⟨g, t', cc', h1, h2, h2', h3⟩ := hM.blk i ds hl
      refine ⟨g, t', cc', hext _ _ h1, by rw [hold g.1 (hM.lt hl h1)]; exact h2, h2', fun j v hv => ?_⟩
      obtain ⟨v', h4, h5⟩ := h3 j v hv
      exact ⟨v', h4, h5.mono hext⟩
  · intro i j ds es g g' hl hl' hi hj hgg
    simp only [Mem.newZ, look_cons] at hl hl'
    have key : ∀ k fs h, look M.bl k = some fs → more r (64 * M.next + z) (w.heap.size, T) k = some h → h.1 = w.heap.size → False := fun k fs h hk he e => by
      obtain ⟨g', t', cc', h1, h2, _⟩ := hM.blk k fs hk
      rw [hext _ _ h1] at he
      have := hM.lt hk h1
      cases he; omega
    by_cases hin : 64 * M.next + z = i
    · subst hin
      rw [hself] at hi; cases hi
      by_cases hjn : 64 * M.next + z = j
      · exact hjn
      · rw [if_neg hjn] at hl'; exact (key _ _ _ hl' hj hgg.symm).elim
    · rw [if_neg hin] at hl
      by_cases hjn : 64 * M.next + z = j
      · subst hjn
        rw [hself] at hj; cases hj
        exact (key _ _ _ hl hi hgg).elim
      · rw [if_neg hjn] at hl'
        obtain ⟨g1, _, _, h1, _⟩ := hM.blk i ds hl
        obtain ⟨g2, _, _, h2, _⟩ := hM.blk j es hl'
        have e1 := hext _ _ h1
        have e2 := hext _ _ h2
        rw [hi] at e1; rw [hj] at e2; cases e1; cases e2
        exact hM.inj i j ds es _ _ hl hl' h1 h2 hgg
  · intro i g hi
    simp only [more] at hi
    simp only [Mem.newZ]
    split at hi
    · omega
    · have := hM.bound i g hi; omega
  · intro i ds hl
    obtain ⟨h1, h2, ⟨s, h4⟩, h5⟩ := hM.glob i ds hl
    obtain ⟨g, _, _, h3, _⟩ := hM.blk i ds h2
    refine ⟨h1, ?_, ⟨s, hext _ _ h4⟩, h5⟩
    simp only [Mem.newZ, look_cons]
    rw [if_neg (hM.ne z i g h3).symm]
    exact h2
  · intro i o hl
    obtain ⟨g, x, h1, h2, h3⟩ := hM.obj i o hl
    exact ⟨g, x, hext _ _ h1, by rw [hold g.1 (hM.ltO hl h1)]; exact h2, h3.mono hext⟩
  · intro i j o p g k hl hl' hi hj e
    obtain ⟨g1, _, h1, _⟩ := hM.obj i o hl
    obtain ⟨g2, _, h2, _⟩ := hM.obj j p hl'
    have e1 := hext _ _ h1
    have e2 := hext _ _ h2
    rw [hi] at e1; rw [hj] at e2; cases e1; cases e2
    exact hM.injO i j o p _ _ hl hl' h1 h2 e
  · intro i ds g hlo hl hi hg
    simp only [Mem.newZ, look_cons] at hl
    by_cases hin : 64 * M.next + z = i
    · subst hin; rw [hself] at hi; cases hi; simp at hg
    · rw [if_neg hin] at hl
      obtain ⟨g1, _, _, h1, _⟩ := hM.blk i ds hl
      have e1 := hext _ _ h1
      rw [hi] at e1; cases e1
      exact ⟨i, ds, _, hlo, hl, h1, rfl⟩
  · intro i o g hl hi _
    obtain ⟨g1, _, h1, _⟩ := hM.obj i o hl
    have e1 := hext _ _ h1
    rw [hi] at e1; cases e1
    exact ⟨i, o, _, hl, h1, rfl⟩

/-- A known block goes on under a new name, its row written anew: what an append that found room is, told as one that made a new block. -/
theorem over_sound {r : Nat → Option (Nat × Nat)} {M : Mem} {w w' : World} (hM : MR r M w) {i : Nat} {g : Nat × Nat} {cs ds : List Value} {t : TypeId} {cc : Array Value} (z : Nat) (hlo : M.lo ≤ i) (hl : look M.bl i = some cs) (hi : r i = some g)
    (hz : z < 64) (hT : 0 < z → cc.size = g.2)
    (hrel : ∀ (j : Nat) v, ds[j]? = some v → ∃ v', cc[j]? = some v' ∧ VR r v v') (hg : w'.heap[g.1]? = some (.cells cc t (0, 0))) (hk : ∀ k, k ≠ g.1 → w'.heap[k]? = w.heap[k]?) (hs : w'.heap.size = w.heap.size)
    (ho : w'.os = w.os) (ht : w'.tape = w.tape) (hu : w'.output = w.output) :
    MR (more r (64 * M.next + z) g) { M with next := M.next + 1, bl := (64 * M.next + z, ds) :: kill M.bl i } w' ∧ Stp r M w (more r (64 * M.next + z) g) { M with next := M.next + 1, bl := (64 * M.next + z, ds) :: kill M.bl i } w' := by
  have hext := more_ext (hM.ne z) g
  have hself := more_self r (64 * M.next + z) g
  have hk' : ∀ k fs, look (kill M.bl i) k = some fs → i ≠ k ∧ look M.bl k = some fs := fun k fs h => by
    rw [look_kill] at h
    split at h
    · cases h
    · rename_i e; exact ⟨e, h⟩
  have hne : ∀ j es h, look M.bl j = some es → r j = some h → i ≠ j → h.1 ≠ g.1 := fun j es h hj hr hij e =>
    hij (hM.inj i j cs es g h hl hj hi hr e.symm)
  refine ⟨⟨?_, ?_, ?_, ?_, ?_, ?_⟩, ⟨hext, rfl, Nat.le_succ _, fun i' cs' hl' hi' => ⟨cs', by simp only [look_cons] at hl'; rw [if_neg (by omega)] at hl'; exact (hk' _ _ hl').2⟩, ho, ht, hu, by omega, fun k _ hn _ => hk k fun e => hn i cs g hlo hl hi e.symm, ?_, rfl, ?_⟩⟩
  · intro k fs hf
    simp only [look_cons] at hf
    by_cases hkk : 64 * M.next + z = k
    · subst hkk
      rw [if_pos rfl] at hf; cases hf
      refine ⟨g, t, cc, hself, hg, fun h0 => hT (by omega), fun j v hv => ?_⟩
      obtain ⟨v', h1, h2⟩ := hrel j v hv
      exact ⟨v', h1, h2.mono hext⟩
    · rw [if_neg hkk] at hf
      obtain ⟨hik, hf⟩ := hk' k fs hf
      obtain ⟨h, t', cc', h1, h2, h2', h3⟩ := hM.blk k fs hf
      refine ⟨h, t', cc', hext _ _ h1, by rw [hk h.1 (hne k fs h hf h1 hik)]; exact h2, h2', fun j v hv => ?_⟩
      obtain ⟨v', h4, h5⟩ := h3 j v hv
      exact ⟨v', h4, h5.mono hext⟩
  · intro j k es fs h h' hl1 hl2 hr1 hr2 hh
    simp only [look_cons] at hl1 hl2
    have key : ∀ k fs h, look (kill M.bl i) k = some fs → more r (64 * M.next + z) g k = some h → h.1 = g.1 → False := fun k fs h hf he e => by
      obtain ⟨hik, hf⟩ := hk' k fs hf
      obtain ⟨g', t', cc', h1, _⟩ := hM.blk k fs hf
      rw [hext _ _ h1] at he; cases he
      exact hne k fs _ hf h1 hik e
    by_cases hj : 64 * M.next + z = j
    · subst hj
      rw [hself] at hr1; cases hr1
      by_cases hk2 : 64 * M.next + z = k
      · exact hk2
      · rw [if_neg hk2] at hl2; exact (key _ _ _ hl2 hr2 hh.symm).elim
    · rw [if_neg hj] at hl1
      by_cases hk2 : 64 * M.next + z = k
      · subst hk2
        rw [hself] at hr2; cases hr2
        exact (key _ _ _ hl1 hr1 hh).elim
      · rw [if_neg hk2] at hl2
        obtain ⟨_, hl1⟩ := hk' _ _ hl1
        obtain ⟨_, hl2⟩ := hk' _ _ hl2
        obtain ⟨g1, _, _, h1, _⟩ := hM.blk j es hl1
        obtain ⟨g2, _, _, h2, _⟩ := hM.blk k fs hl2
        have e1 := hext _ _ h1
        have e2 := hext _ _ h2
        rw [hr1] at e1; rw [hr2] at e2; cases e1; cases e2
        exact hM.inj j k es fs _ _ hl1 hl2 h1 h2 hh
  · intro j h hj
    simp only [more] at hj
    simp only
    split at hj
    · omega
    · have := hM.bound j h hj; omega
  · intro j es hj
    obtain ⟨h1, h2, ⟨s, h4⟩, h5⟩ := hM.glob j es hj
    obtain ⟨g1, _, _, h3, _⟩ := hM.blk j es h2
    refine ⟨h1, ?_, ⟨s, hext _ _ h4⟩, h5⟩
    simp only [look_cons, look_kill]
    rw [if_neg (hM.ne z j g1 h3).symm, if_neg (by omega)]
    exact h2
  · intro j o hj
    obtain ⟨g1, x, h1, h2, h3⟩ := hM.obj j o hj
    exact ⟨g1, x, hext _ _ h1, by rw [hk g1.1 (hM.apart hl hi hj h1).symm]; exact h2, h3.mono hext⟩
  · intro j k o p g1 g2 hl1 hl2 hi1 hi2 e
    obtain ⟨k1, _, h1, _⟩ := hM.obj j o hl1
    obtain ⟨k2, _, h2, _⟩ := hM.obj k p hl2
    have e1 := hext _ _ h1
    have e2 := hext _ _ h2
    rw [hi1] at e1; rw [hi2] at e2; cases e1; cases e2
    exact hM.injO j k o p _ _ hl1 hl2 h1 h2 e
  · intro j es h hlo' hj hr hh
    simp only [look_cons] at hj
    by_cases hjj : 64 * M.next + z = j
    · subst hjj; rw [hself] at hr; cases hr; exact ⟨i, cs, g, hlo, hl, hi, rfl⟩
    · rw [if_neg hjj] at hj
      obtain ⟨hik, hj⟩ := hk' j es hj
      obtain ⟨g1, _, _, h1, _⟩ := hM.blk j es hj
      have e1 := hext _ _ h1
      rw [hr] at e1; cases e1
      exact ⟨j, es, _, hlo', hj, h1, rfl⟩
  · intro j o g1 hj hr _
    obtain ⟨k1, _, h1, _⟩ := hM.obj j o hj
    have e1 := hext _ _ h1
    rw [hr] at e1; cases e1
    exact ⟨j, o, _, hj, h1, rfl⟩

theorem glob_kill {r : Nat → Option (Nat × Nat)} {M : Mem} {w : World} (hM : MR r M w) {b : Nat} (z : Nat) (ds : List Value) (hlo : M.lo ≤ b) : ∀ i cs, look M.gl i = some cs → look ((64 * M.next + z, ds) :: kill M.bl b) i = some cs := fun j es hj => by
  obtain ⟨h1, h2, _⟩ := hM.glob j es hj
  obtain ⟨g1, _, _, h3, _⟩ := hM.blk j es h2
  simp only [look_cons, look_kill]
  rw [if_neg (hM.ne z j g1 h3).symm, if_neg (by omega)]
  exact h2

/-! ### A row written anew. -/
theorem row_sound {r : Nat → Option (Nat × Nat)} {M : Mem} {w w' : World} (hM : MR r M w) {i : Nat} {g : Nat × Nat} {cs ds : List Value} {t : TypeId} {cc : Array Value} (hlo : M.lo ≤ i) (hl : look M.bl i = some cs) (hi : r i = some g)
    (hT : 0 < i % 64 → cc.size = g.2)
    (hrel : ∀ (j : Nat) v, ds[j]? = some v → ∃ v', cc[j]? = some v' ∧ VR r v v') (hg : w'.heap[g.1]? = some (.cells cc t (0, 0))) (hk : ∀ k, k ≠ g.1 → w'.heap[k]? = w.heap[k]?) (hs : w'.heap.size = w.heap.size)
    (ho : w'.os = w.os) (ht : w'.tape = w.tape) (hu : w'.output = w.output) :
    MR r { M with bl := upd M.bl i ds } w' ∧ Stp r M w r { M with bl := upd M.bl i ds } w' := by
  have hne : ∀ j es h, look M.bl j = some es → r j = some h → i ≠ j → h.1 ≠ g.1 := fun j es h hj hr hij e =>
    hij (hM.inj i j cs es g h hl hj hi hr e.symm)
  refine ⟨⟨?_, ?_, hM.bound, ?_, ?_, hM.injO⟩, ⟨fun _ _ h => h, rfl, Nat.le_refl _, fun i' cs' hl' _ => by
      simp only [look_upd] at hl'
      split at hl'
      · rename_i e; subst e; exact ⟨cs, hl⟩
      · exact ⟨cs', hl'⟩, ho, ht, hu, by omega, fun k _ hn _ => hk k fun e => hn i cs g hlo hl hi e.symm, ?_, rfl, fun j o g1 hj hr _ => ⟨j, o, g1, hj, hr, rfl⟩⟩⟩
  · intro j es hj
    rw [look_upd] at hj
    split at hj
    · rename_i e; subst e
      rw [hl] at hj; simp at hj; subst hj
      exact ⟨g, t, cc, hi, hg, hT, hrel⟩
    · rename_i e
      obtain ⟨h, t', cc', h1, h2, h3⟩ := hM.blk j es hj
      exact ⟨h, t', cc', h1, by rw [hk h.1 (hne j es h hj h1 e)]; exact h2, h3⟩
  · intro j k es fs h h' h1 h2
    rw [look_upd] at h1 h2
    have g1 : ∃ es', look M.bl j = some es' := by
      split at h1
      · rename_i e; subst e; exact ⟨cs, hl⟩
      · exact ⟨es, h1⟩
    have g2 : ∃ fs', look M.bl k = some fs' := by
      split at h2
      · rename_i e; subst e; exact ⟨cs, hl⟩
      · exact ⟨fs, h2⟩
    obtain ⟨_, g1⟩ := g1
    obtain ⟨_, g2⟩ := g2
    exact hM.inj j k _ _ h h' g1 g2
  · intro j es hj
    obtain ⟨h1, h2, h4⟩ := hM.glob j es hj
    refine ⟨h1, ?_, h4⟩
    simp only [look_upd]
    rw [if_neg (by omega)]
    exact h2
  · intro j o hj
    obtain ⟨g1, x, h1, h2, h3⟩ := hM.obj j o hj
    exact ⟨g1, x, h1, by rw [hk g1.1 (hM.apart hl hi hj h1).symm]; exact h2, h3⟩
  · intro j es h hlo' hj hr hh
    rw [look_upd] at hj
    split at hj
    · rename_i e; subst e; exact ⟨i, cs, h, hlo, hl, hr, rfl⟩
    · exact ⟨j, es, h, hlo', hj, hr, rfl⟩

/-! ### Cells read. -/
theorem cell_sound {r : Nat → Option (Nat × Nat)} {M : Mem} {w : World} (hM : MR r M w) {i : Nat} {g : Nat × Nat} {cs : List Value} (hl : look M.bl i = some cs) (hi : r i = some g) {j : Nat} {v : Value} (hv : cs[j]? = some v) :
    ∃ v', w.cell? ⟨g.1, j, none⟩ = some v' ∧ VR r v v' := by
  obtain ⟨g', t, cc, h1, h2, h2t, h3⟩ := hM.blk i cs hl
  rw [hi] at h1; cases h1
  obtain ⟨v', h4, h5⟩ := h3 j v hv
  exact ⟨v', by simp [World.cell?, h2, h4], h5⟩
theorem frozen_sound {r : Nat → Option (Nat × Nat)} {M : Mem} {w : World} (hM : MR r M w) {i : Nat} {g : Nat × Nat} {cs : List Value} (hl : look M.bl i = some cs) (hi : r i = some g) (j : Nat) : w.frozen? ⟨g.1, j, none⟩ = false := by
  obtain ⟨g', t, cc, h1, h2, h2t, h3⟩ := hM.blk i cs hl
  rw [hi] at h1; cases h1
  simp [World.frozen?, h2]
theorem add_at (g o n : Nat) : (⟨g, o, none⟩ : Addr).add n = ⟨g, o + n, none⟩ := by unfold Addr.add; split <;> simp_all
theorem cells_sound {r : Nat → Option (Nat × Nat)} {M : Mem} {w : World} (hM : MR r M w) {i : Nat} {g : Nat × Nat} {cs : List Value} (hl : look M.bl i = some cs) (hi : r i = some g) {o n : Nat} (hn : o + n ≤ cs.length) :
    ∃ ys : List Value, ys.length = n ∧ (∀ P : Program, (loadCells ⟨g.1, o, none⟩ n).run P w = .ok ys.toArray w) ∧ LR r ((cs.drop o).take n) ys := by
  obtain ⟨g', t, cc, h1, h2, h2t, h3⟩ := hM.blk i cs hl
  rw [hi] at h1; cases h1
  have hlen : ∀ j, j < cs.length → j < cc.size := fun j hj => by
    obtain ⟨v', h4, _⟩ := h3 j cs[j] (List.getElem?_eq_getElem hj)
    exact (Array.getElem?_eq_some_iff.1 h4).1
  have hys : ((cc.toList.drop o).take n).length = n := by
    simp only [List.length_take, List.length_drop, Array.length_toList]
    rcases Nat.eq_zero_or_pos n with h0 | h0
    · subst h0; simp
    · have := hlen (o + n - 1) (by omega); omega
  refine ⟨(cc.toList.drop o).take n, hys, fun P => ?_, ?_⟩
  · have := run_loadCells_list (P := P) w ⟨g.1, o, none⟩ ((cc.toList.drop o).take n) fun j v hv => by
      rw [List.getElem?_take] at hv
      split at hv
      · rw [List.getElem?_drop] at hv
        rw [add_at, cell_of_row w g.1 (o + j) cc t (0, 0) h2]
        simpa using hv
      · cases hv
    rwa [hys] at this
  · refine ⟨by rw [hys]; simp; omega, fun j x y hx hy => ?_⟩
    rw [List.getElem?_take] at hx hy
    split at hx
    · rename_i hj; rw [if_pos hj, List.getElem?_drop] at hy
      rw [List.getElem?_drop] at hx
      obtain ⟨v', h4, h5⟩ := h3 _ _ hx
      have : cc[o + j]? = some y := by simpa using hy
      rw [h4] at this; cases this; exact h5
    · cases hx

theorem oneCell_of {r : Nat → Option (Nat × Nat)} {v v' : Value} (h : VR r v v') (h1 : v.oneCell' = true) : v'.oneCell' = true := by
  cases h <;> first | exact h1 | rfl

/-- A row of cells stored. -/
theorem store_sound {r : Nat → Option (Nat × Nat)} {M : Mem} {w : World} (hM : MR r M w) {i : Nat} {g : Nat × Nat} {cs xs ys : List Value} (hlo : M.lo ≤ i) (hl : look M.bl i = some cs) (hi : r i = some g) {o : Nat} (ho : o + xs.length ≤ cs.length)
    (h1 : xs.all (·.oneCell') = true) (hr : LR r xs ys) :
    ∃ w', (∀ P : Program, (storeCells ⟨g.1, o, none⟩ ys).run P w = .ok () w') ∧ MR r { M with bl := upd M.bl i (cs.take o ++ xs ++ cs.drop (o + xs.length)) } w' ∧ Stp r M w r { M with bl := upd M.bl i (cs.take o ++ xs ++ cs.drop (o + xs.length)) } w' ∧ ∀ k, k ≠ g.1 → w'.heap[k]? = w.heap[k]? := by
  obtain ⟨g', t, cc, h1', h2, h2t, h3⟩ := hM.blk i cs hl
  rw [hi] at h1'; cases h1'
  have hlen : ∀ j, j < cs.length → j < cc.size := fun j hj => by
    obtain ⟨v', h4, _⟩ := h3 j cs[j] (List.getElem?_eq_getElem hj)
    exact (Array.getElem?_eq_some_iff.1 h4).1
  have hcc : cs.length ≤ cc.size := by
    rcases Nat.eq_zero_or_pos cs.length with h0 | h0
    · omega
    · have := hlen (cs.length - 1) (by omega); omega
  have hy1 : ∀ v ∈ ys, v.oneCell' = true := fun v hv => by
    obtain ⟨j, hj⟩ := List.mem_iff_getElem?.1 hv
    have hjl : j < xs.length := by
      rcases Nat.lt_or_ge j ys.length with h | h
      · rw [hr.1]; exact h
      · rw [List.getElem?_eq_none h] at hj; cases hj
    exact oneCell_of (hr.2 j _ _ (List.getElem?_eq_getElem hjl) hj) (List.all_eq_true.1 h1 _ (List.getElem_mem hjl))
  have hyl := hr.1
  refine ⟨_, fun P => run_storeCells_at P g.1 o t ys 0 cc w h2 (by omega) hy1, ?_⟩
  simp only [Nat.add_zero]
  refine (fun hh => ⟨hh.1, hh.2, fun k hk => setRow_other w g.1 k _ hk⟩) (row_sound (t := t) hM hlo hl hi (fun h0 => ?_) ?_ (setRow_heap w g.1 cc _ t _ h2) (fun k hk => setRow_other w g.1 k _ hk) (setRow_size ..) rfl rfl rfl)
  · have := h2t h0
    simp only [List.size_toArray, List.length_append, List.length_take, List.length_drop, Array.length_toList]
    omega
  intro j v hv
  have htk : (List.take o cs).length = o := by simp; omega
  have htk' : (List.take o cc.toList).length = o := by simp; omega
  rw [List.append_assoc] at hv
  simp only [List.getElem?_toArray, List.append_assoc]
  rcases Nat.lt_or_ge j o with hj | hj
  · rw [List.getElem?_append_left (by omega), List.getElem?_take_of_lt hj] at hv
    rw [List.getElem?_append_left (by omega), List.getElem?_take_of_lt hj]
    obtain ⟨v', h4, h5⟩ := h3 j v hv
    exact ⟨v', by simpa using h4, h5⟩
  · rw [List.getElem?_append_right (by omega), htk] at hv
    rw [List.getElem?_append_right (by omega), htk']
    rcases Nat.lt_or_ge (j - o) xs.length with hj' | hj'
    · rw [List.getElem?_append_left hj'] at hv
      rw [List.getElem?_append_left (by omega)]
      exact hr.get hv
    · rw [List.getElem?_append_right hj', List.getElem?_drop] at hv
      rw [List.getElem?_append_right (by omega), List.getElem?_drop]
      obtain ⟨v', h4, h5⟩ := h3 _ v hv
      exact ⟨v', by rw [← hyl]; simpa using h4, h5⟩

/-! ### What only reckons: run by the model's own word. -/
def pureRun {α : Type} (P : Program) : Sem α → Option α
  | .pure a => some a
  | .program k => pureRun P (k P)
  | .mark _ k => pureRun P k
  | _ => none
theorem pureRun_sound {α : Type} {P : Program} {s : Sem α} : ∀ {a : α}, pureRun P s = some a → ∀ w, s.run P w = .ok a w := by
  induction s with
  | pure a => intro b h w; cases h; rfl
  | program k ih => intro b h w; exact ih P h w
  | mark m k ih => intro b h w; exact ih h w
  | _ => intro b h; cases h
end Ev
end Go.Proofs.Ytjinpngojdefiaa
/-! ## C -/
namespace Go.Proofs.Ytjinpngojdefiaa
open Go.RowKit
namespace Ev

/-- A value brought to its final form, for what stands behind it: the same value. -/
def forceN {α : Type} (n : Nat) (f : Nat → α) : α := match n with
  | 0 => f 0
  | k + 1 => f (k + 1)
theorem forceN_eq {α : Type} (n : Nat) (f : Nat → α) : forceN n f = f n := by cases n <;> rfl
def forceV {α : Type} (v : Value) (f : Value → α) : α := match v with
  | .int k n => match n with
    | .ofNat m => forceN m fun m => f (.int k (.ofNat m))
    | .negSucc m => forceN m fun m => f (.int k (.negSucc m))
  | .bool b => match b with
    | true => f (.bool true)
    | false => f (.bool false)
  | .pointer (some a) => forceN a.block fun b => forceN a.off fun o => match a.spot with
    | none => f (.pointer (some ⟨b, o, none⟩))
    | some s => f (.pointer (some ⟨b, o, some s⟩))
  | .slice (some a) n c => forceN a.block fun b => forceN a.off fun o => forceN n fun n => forceN c fun c => match a.spot with
    | none => f (.slice (some ⟨b, o, none⟩) n c)
    | some s => f (.slice (some ⟨b, o, some s⟩) n c)
  | v => f v
theorem forceV_eq {α : Type} (v : Value) (f : Value → α) : forceV v f = f v := by
  cases v with
  | int k n => cases n <;> simp [forceV, forceN_eq]
  | bool b => cases b <;> rfl
  | pointer a => cases a with
    | none => rfl
    | some a => obtain ⟨b, o, s⟩ := a; cases s <;> simp [forceV, forceN_eq]
  | slice a n c => cases a with
    | none => rfl
    | some a => obtain ⟨b, o, s⟩ := a; cases s <;> simp [forceV, forceN_eq]
  | _ => rfl

/-- The tree, built whole before what stands behind it goes on. -/
def setK {α : Type} : List Bool → Value → Tr → (Tr → α) → α
  | [], v, t, k => match t with
    | .nd _ l r => k (.nd v l r)
    | .e => k (.nd v .e .e)
  | b :: p, v, t, k => match t with
    | .nd u l r => bif b then setK p v r fun r' => k (.nd u l r') else setK p v l fun l' => k (.nd u l' r)
    | .e => bif b then setK p v .e fun r' => k (.nd Go.undef .e r') else setK p v .e fun l' => k (.nd Go.undef l' .e)
theorem setK_eq {α : Type} : ∀ (p : List Bool) (v : Value) (t : Tr) (k : Tr → α), setK p v t k = k (setT p v t)
  | [], v, t, k => by cases t <;> rfl
  | b :: p, v, t, k => by
    cases t <;> cases b <;> simp [setK, setT, setK_eq p]
def Env.setK {α : Type} (env : Env) (i : Nat) (v : Value) (k : Env → α) : α := match env with
  | ⟨n, t, gs, ds, rd⟩ => bif Nat.blt i n then Ev.setK (pathOf i) v t fun t' => k ⟨n, t', gs, ds, rd⟩ else k ⟨n, t, gs, ds, rd⟩
theorem Env.setK_eq {α : Type} (env : Env) (i : Nat) (v : Value) (k : Env → α) : env.setK i v k = k (env.set i v) := by
  obtain ⟨n, t, gs, ds, rd⟩ := env
  simp only [Env.setK, Env.set]
  cases Nat.blt i n with
  | true => simp only [cond_true, Ev.setK_eq]
  | false => rfl
def forceL {α β : Type} (l : List β) (k : List β → α) : α := match l with
  | [] => k []
  | x :: xs => k (x :: xs)
theorem forceL_eq {α β : Type} (l : List β) (k : List β → α) : forceL l k = k l := by cases l <;> rfl
/-- Memory brought to its final form, as far as its newest block. -/
def forceM {α : Type} (M : Mem) (k : Mem → α) : α := match M with
  | ⟨next, lo, bl, gl, ob⟩ => forceN next fun next => forceN lo fun lo => forceL bl fun bl => forceL gl fun gl => forceL ob fun ob => k ⟨next, lo, bl, gl, ob⟩
theorem forceM_eq {α : Type} (M : Mem) (k : Mem → α) : forceM M k = k M := by
  obtain ⟨next, lo, bl, gl, ob⟩ := M
  simp [forceM, forceN_eq, forceL_eq]
/-- Octets, each as the octet of a number. -/
def forceB {α : Type} : List UInt8 → (List UInt8 → α) → α
  | [], k => k []
  | b :: l, k => forceN b.toNat fun n => forceB l fun l => k (UInt8.ofNat n :: l)
theorem forceB_eq {α : Type} : ∀ (l : List UInt8) (k : List UInt8 → α), forceB l k = k l
  | [], k => rfl
  | b :: l, k => by simp [forceB, forceN_eq, forceB_eq l]
def forceS {α : Type} (s : ByteArray) (k : ByteArray → α) : α := forceB s.data.toList fun l => k ⟨⟨l⟩⟩
theorem forceS_eq {α : Type} (s : ByteArray) (k : ByteArray → α) : forceS s k = k s := by
  unfold forceS
  rw [forceB_eq]
/-- A list of values, one by one by what brings each to its final form. -/
def forceVs {α : Type} (f : Value → (Value → α) → α) : List Value → (List Value → α) → α
  | [], k => k []
  | v :: l, k => f v fun v => forceVs f l fun l => k (v :: l)
theorem forceVs_eq {α : Type} {f : Value → (Value → α) → α} (hf : ∀ v k, f v k = k v) : ∀ (l : List Value) (k : List Value → α), forceVs f l k = k l
  | [], k => rfl
  | v :: l, k => by simp [forceVs, hf, forceVs_eq hf l]
/-- A value brought to its final form, parts and all. -/
def forceD {α : Type} : Nat → Value → (Value → α) → α
  | 0, v, k => k v
  | n + 1, v, k => match v with
    | .int i m => (match m with
      | .ofNat m => forceN m fun m => k (.int i (.ofNat m))
      | .negSucc m => forceN m fun m => k (.int i (.negSucc m)))
    | .bool b => (match b with
      | true => k (.bool true)
      | false => k (.bool false))
    | .string s => forceS s fun s => k (.string s)
    | .pointer (some a) => forceN a.block fun b => forceN a.off fun o => (match a.spot with
      | none => k (.pointer (some ⟨b, o, none⟩))
      | some s => k (.pointer (some ⟨b, o, some s⟩)))
    | .slice (some a) l c => forceN a.block fun b => forceN a.off fun o => forceN l fun l => forceN c fun c => (match a.spot with
      | none => k (.slice (some ⟨b, o, none⟩) l c)
      | some s => k (.slice (some ⟨b, o, some s⟩) l c))
    | .agg xs => forceVs (forceD n) xs.toList fun l => k (.agg ⟨l⟩)
    | .tuple xs => forceVs (forceD n) xs.toList fun l => k (.tuple ⟨l⟩)
    | .func fn xs ys => forceVs (forceD n) xs.toList fun l => forceVs (forceD n) ys.toList fun l' => k (.func fn ⟨l⟩ ⟨l'⟩)
    | .iface t u => forceN t fun t => forceD n u fun u => k (.iface t u)
    | v => k v
theorem forceD_eq {α : Type} : ∀ (n : Nat) (v : Value) (k : Value → α), forceD n v k = k v
  | 0, v, k => rfl
  | n + 1, v, k => by
    have ih : ∀ v k, forceD (α := α) n v k = k v := forceD_eq n
    cases v with
    | int i m => cases m <;> simp [forceD, forceN_eq]
    | bool b => cases b <;> rfl
    | string s => simp [forceD, forceS_eq]
    | pointer a => cases a with
      | none => rfl
      | some a => obtain ⟨b, o, s⟩ := a; cases s <;> simp [forceD, forceN_eq]
    | slice a l c => cases a with
      | none => rfl
      | some a => obtain ⟨b, o, s⟩ := a; cases s <;> simp [forceD, forceN_eq]
    | agg xs => simp [forceD, forceVs_eq ih]
    | tuple xs => simp [forceD, forceVs_eq ih]
    | func fn xs ys => simp [forceD, forceVs_eq ih]
    | iface t u => simp [forceD, forceN_eq, ih]
    | _ => rfl
def fillK {α : Type} : Nat → List Value → Tr → (Tr → α) → α
  | _, [], t, k => k t
  | i, x :: xs, t, k => setK (pathOf i) x t fun t' => fillK (i + 1) xs t' k
theorem fillK_eq {α : Type} : ∀ (xs : List Value) (i : Nat) (t : Tr) (k : Tr → α), fillK i xs t k = k (fillT i xs t)
  | [], i, t, k => rfl
  | x :: xs, i, t, k => by simp [fillK, fillT, setK_eq, fillK_eq xs]
/-- The environment in which a function begins, built whole. -/
def mkEnvK {α : Type} (gs : List Nat) (n : Nat) (xs : List Value) (k : Env → α) : α := fillK 0 xs .e fun t => forceN (xs.length + (n - xs.length)) fun n => k ⟨n, t, gs, [], false⟩
theorem mkEnvK_eq {α : Type} (gs : List Nat) (n : Nat) (xs : List Value) (k : Env → α) : mkEnvK gs n xs k = k (mkEnv gs n xs) := by
  simp [mkEnvK, mkEnv, fillK_eq, forceN_eq]

def ev (env : Env) : Operand → Option Value
  | .tmp t => some (env.get t)
  | .const v => bif af 4 v then some v else none
  | .func f => some (.func (.func f) #[] #[])
  | .global g => bif env.gs.any (Nat.beq g) then some (.pointer (some ⟨64 * g, 0, none⟩)) else none

theorem ev_sound {r : Nat → Option (Nat × Nat)} {env : Env} {a : Act} (h : ER r env a.tmps) {x : Operand} {v : Value} (hv : ev env x = some v) : VR r v (a.eval x) := by
  cases x with
  | tmp t =>
    simp only [ev, Option.some.injEq] at hv
    subst hv
    exact h.2 t
  | const v' =>
    simp only [ev] at hv
    cases h4 : af 4 v' with
    | false => rw [h4] at hv; cases hv
    | true => rw [h4] at hv; cases hv; exact .same 4 _ h4
  | func f => cases hv; exact .same 2 _ rfl
  | global g =>
    simp only [ev] at hv
    cases hb : env.gs.any (Nat.beq g) with
    | false => rw [hb] at hv; cases hv
    | true =>
      rw [hb] at hv; cases hv
      obtain ⟨g', h1, h2⟩ := List.any_eq_true.1 hb
      have := Nat.eq_of_beq_eq_true h2
      subst this
      obtain ⟨s, hs⟩ := h.3 g h1
      exact .ptr _ _ _ hs

/-- What an operation's run is to be: its value, or nothing where it is a statement. -/
structure Out (P : Program) (s : Sem Next) (w : World) (r : Nat → Option (Nat × Nat)) (M : Mem) (v : Value) (M' : Mem) (r' : Nat → Option (Nat × Nat)) (v' : Value) (w' : World) : Prop where
  run : s.run P w = .ok (.value v') w' ∨ (s.run P w = .ok .skip w' ∧ v' = Go.undef)
  val : VR r' v v'
  mem : MR r' M' w'
  stp : Stp r M w r' M' w'

theorem Out.still {P : Program} {s : Sem Next} {w : World} {r : Nat → Option (Nat × Nat)} {M : Mem} {v v' : Value} (hM : MR r M w) (h : s.run P w = .ok (.value v') w) (hv : VR r v v') : Out P s w r M v M r v' w :=
  ⟨.inl h, hv, hM, .refl r M w⟩

theorem run_value {P : Program} {s : Sem Value} {w w' : World} {v : Value} (h : s.run P w = .ok v w') : (do pure (Next.value (← s)) : Sem Next).run P w = .ok (.value v) w' := by
  simp [h]
theorem run_unit {P : Program} {s : Sem Unit} {w w' : World} (h : s.run P w = .ok () w') : (do s; pure Next.skip : Sem Next).run P w = .ok .skip w' := by
  simp [h]

/-! ### Memory made. -/
def cellsOf' (v : Value) : List Value := match v with
  | .agg xs => xs.toList
  | v => [v]
theorem cellsOf_rel {r : Nat → Option (Nat × Nat)} {v v' : Value} (h : VR r v v') : LR r (cellsOf' v) v'.cells.toList := by
  have one : ∀ {u u' : Value}, VR r u u' → LR r [u] [u'] := fun h => .cons h (.nil r)
  cases v with
  | agg xs => obtain ⟨ys, rfl, hl⟩ := h.of_agg; exact hl
  | _ => cases h <;> first | exact one (.same _ _ (by assumption)) | (refine one ?_; constructor <;> assumption)
theorem new_var_sound {P : Program} {r : Nat → Option (Nat × Nat)} {M : Mem} {w : World} (hM : MR r M w) {cs : List Value} {cc : Array Value} (t : TypeId) (h : LR r cs cc.toList) :
    ∃ r' w', (newRow t cc).run P w = .ok ⟨w.heap.size, 0, none⟩ w' ∧ r' (64 * M.next) = some (w.heap.size, 0) ∧ MR r' (M.new cs) w' ∧ Stp r M w r' (M.new cs) w' := by
  obtain ⟨h1, h2⟩ := new_sound (w' := w.alloc (.cells cc t)) (t := t) (cc := cc) hM (cs := cs) 0 0 (by omega) (fun h => absurd h (by omega)) (fun j v hv => by
    obtain ⟨y, hy, hr⟩ := h.get hv
    exact ⟨y, by simpa using hy, hr⟩) rfl rfl rfl rfl
  exact ⟨_, w.alloc (.cells cc t), by simp [newRow], more_self r _ _, h1, h2⟩

def zeroOf (P : Program) (t : TypeId) : Option Value := match P.info? t with
  | some i => match i.zero with
    | some z => bif af 4 z then some z else none
    | none => none
  | none => none
theorem zeroOf_run {P : Program} {t : TypeId} {z : Value} (h : zeroOf P t = some z) : af 4 z = true ∧ ∀ w, (zeroValue t).run P w = .ok z w := by
  unfold zeroOf at h
  cases hi : P.info? t with
  | none => rw [hi] at h; cases h
  | some i =>
    rw [hi] at h
    simp only at h
    cases hz : i.zero with
    | none => rw [hz] at h; cases h
    | some u =>
      rw [hz] at h
      simp only at h
      cases ha : af 4 u with
      | false => rw [ha] at h; cases h
      | true => rw [ha] at h; cases h; exact ⟨ha, fun w => by simp [zeroValue, typeInfo, hi, hz]⟩

def allocA (P : Program) (M : Mem) (t : TypeId) : Option (Value × Mem) := match zeroOf P t with
  | some z => some (.pointer (some ⟨64 * M.next, 0, none⟩), M.new (cellsOf' z))
  | none => none
theorem alloc_sound {P : Program} {r : Nat → Option (Nat × Nat)} {M M' : Mem} {w : World} {v : Value} (hM : MR r M w) (t : TypeId) (h : allocA P M t = some (v, M')) :
    ∃ r' v' w', (Instr.alloc t true (.tuple #[])).run P w = .ok v' w' ∧ VR r' v v' ∧ MR r' M' w' ∧ Stp r M w r' M' w' := by
  unfold allocA at h
  cases hz : zeroOf P t with
  | none => rw [hz] at h; cases h
  | some z =>
    rw [hz] at h
    cases h
    obtain ⟨ha, hr⟩ := zeroOf_run hz
    obtain ⟨r', w', h1, h2, h3, h4⟩ := new_var_sound (P := P) hM t (cellsOf_rel (.same (r := r) 4 z ha))
    exact ⟨r', _, w', by simp [Instr.alloc, newVar, hr, h1], .ptr _ _ _ h2, h3, h4⟩

def boxA (M : Mem) (x : Value) : Value × Mem := (.pointer (some ⟨64 * M.next, 0, none⟩), M.new (cellsOf' x))
theorem box_sound {P : Program} {r : Nat → Option (Nat × Nat)} {M : Mem} {w : World} (hM : MR r M w) (t : TypeId) {x x' : Value} (hx : VR r x x') :
    ∃ r' v' w', (Instr.box t x').run P w = .ok v' w' ∧ VR r' (boxA M x).1 v' ∧ MR r' (boxA M x).2 w' ∧ Stp r M w r' (boxA M x).2 w' := by
  obtain ⟨r', w', h1, h2, h3, h4⟩ := new_var_sound (P := P) hM t (cellsOf_rel hx)
  exact ⟨r', _, w', by simp [Instr.box, newVar, h1], .ptr _ _ _ h2, h3, h4⟩

/-! ### Memory read and written. -/
def aggT (P : Program) (t : TypeId) : Option Bool := match P.underlying t with
  | some (.struct _) => some true
  | some (.array _ _) => some true
  | some _ => some false
  | none => none
theorem aggT_run {P : Program} {t : TypeId} {b : Bool} (h : aggT P t = some b) (w : World) : (isAgg t).run P w = .ok b w := by
  unfold aggT at h
  unfold isAgg
  cases hu : P.underlying t with
  | none => rw [hu] at h; cases h
  | some d => rw [hu] at h; cases d <;> simp_all [underlying]
def sizeA (P : Program) (t : TypeId) : Option Nat := match P.info? t with
  | some i => some i.size
  | none => none
theorem sizeA_run {P : Program} {t : TypeId} {n : Nat} (h : sizeA P t = some n) (w : World) : (sizeOf t).run P w = .ok n w := by
  unfold sizeA at h
  cases hi : P.info? t with
  | none => rw [hi] at h; cases h
  | some i => rw [hi] at h; cases h; simp [Go.sizeOf, typeInfo, hi]

def loadA (P : Program) (M : Mem) (t : TypeId) (x : Value) : Option Value := match x with
  | .pointer (some a) => match look M.bl a.block with
    | some cs => match aggT P t with
      | some true => match sizeA P t with
        | some n => bif Nat.ble (a.off + n) cs.length then some (.agg ((cs.drop a.off).take n).toArray) else none
        | none => none
      | some false => cs[a.off]?
      | none => none
    | none => none
  | _ => none
theorem loadVar_sound {P : Program} {r : Nat → Option (Nat × Nat)} {M : Mem} {w : World} {v x x' : Value} (hM : MR r M w) (t : TypeId) (hx : VR r x x') (h : loadA P M t x = some v) :
    ∃ a v', x' = .pointer (some a) ∧ (loadVar t a).run P w = .ok v' w ∧ VR r v v' := by
  unfold loadA at h
  split at h
  case h_2 => cases h
  rename_i a
  obtain ⟨hs, g, hg, rfl⟩ := hx.of_ptr
  cases hl : look M.bl a.block with
  | none => rw [hl] at h; cases h
  | some cs =>
    rw [hl] at h
    cases hb : aggT P t with
    | none => rw [hb] at h; cases h
    | some b =>
      rw [hb] at h
      cases b with
      | false =>
        obtain ⟨v', h1, h2⟩ := cell_sound hM hl hg h
        exact ⟨_, v', rfl, by simp [loadVar, aggT_run hb, h1], h2⟩
      | true =>
        cases hn : sizeA P t with
        | none => rw [hn] at h; cases h
        | some n =>
          rw [hn] at h
          simp only at h
          cases hle : Nat.ble (a.off + n) cs.length with
          | false => rw [hle] at h; cases h
          | true =>
            rw [hle] at h
            cases h
            obtain ⟨ys, _, h2, h3⟩ := cells_sound hM hl hg (Nat.le_of_ble_eq_true hle)
            exact ⟨_, .agg ys.toArray, rfl, by simp [loadVar, aggT_run hb, sizeA_run hn, h2 P], .agg' h3⟩
theorem load_sound {P : Program} {r : Nat → Option (Nat × Nat)} {M : Mem} {w : World} {v x x' : Value} (hM : MR r M w) (t : TypeId) (hx : VR r x x') (h : loadA P M t x = some v) :
    ∃ v', (Instr.loadAt t x').run P w = .ok v' w ∧ VR r v v' := by
  obtain ⟨a, v', rfl, h1, h2⟩ := loadVar_sound hM t hx h
  exact ⟨v', by simp [Instr.loadAt, Instr.sureAddr, h1], h2⟩

def storeA (P : Program) (M : Mem) (t : TypeId) (x u : Value) : Option Mem := match x with
  | .pointer (some a) => match look M.bl a.block with
    | some cs => match sizeA P t with
      | some n => bif Nat.ble M.lo a.block && (Nat.beq (cellsOf' u).length n && (Nat.ble (a.off + (cellsOf' u).length) cs.length && (cellsOf' u).all (·.oneCell'))) then
          some { M with bl := upd M.bl a.block (cs.take a.off ++ cellsOf' u ++ cs.drop (a.off + (cellsOf' u).length)) } else none
      | none => none
    | none => none
  | _ => none
theorem storeAt_sound {P : Program} {r : Nat → Option (Nat × Nat)} {M M' : Mem} {w : World} {x x' u u' : Value} (hM : MR r M w) (t : TypeId) (hx : VR r x x') (hu : VR r u u') (h : storeA P M t x u = some M') :
    ∃ w', (Instr.storeAt t x' u').run P w = .ok () w' ∧ MR r M' w' ∧ Stp r M w r M' w' ∧ ∀ a g, x = .pointer (some a) → r a.block = some g → ∀ k, k ≠ g.1 → w'.heap[k]? = w.heap[k]? := by
  unfold storeA at h
  split at h
  case h_2 => cases h
  rename_i a
  obtain ⟨hs, g, hg, rfl⟩ := hx.of_ptr
  cases hl : look M.bl a.block with
  | none => rw [hl] at h; cases h
  | some cs =>
    rw [hl] at h
    cases hn : sizeA P t with
    | none => rw [hn] at h; cases h
    | some n =>
      rw [hn] at h
      simp only at h
      generalize hc : (Nat.ble M.lo a.block && (Nat.beq (cellsOf' u).length n && (Nat.ble (a.off + (cellsOf' u).length) cs.length && (cellsOf' u).all (·.oneCell')))) = c at h
      cases c with
      | false => cases h
      | true =>
        cases h
        simp only [Bool.and_eq_true] at hc
        obtain ⟨c1, c2, c3, c4⟩ := hc
        have hrel := cellsOf_rel hu
        obtain ⟨w', h1, h2, h3, h4⟩ := store_sound hM (Nat.le_of_ble_eq_true c1) hl hg (Nat.le_of_ble_eq_true c3) c4 hrel
        have hlen : u'.cells.size = n := by
          have := hrel.1
          rw [Nat.eq_of_beq_eq_true c2] at this
          simpa using this.symm
        exact ⟨w', by simp [Instr.storeAt, Instr.sureAddr, storeVar, sizeA_run hn, hlen, h1 P], h2, h3, fun a' g' e hg' => by
          cases e; rw [hg] at hg'; cases hg'; exact h4⟩
end Ev
end Go.Proofs.Ytjinpngojdefiaa
/-! ## D -/
namespace Go.Proofs.Ytjinpngojdefiaa
open Go.RowKit
namespace Ev

def fieldAddrA (P : Program) (s : TypeId) (x : Value) (f : Nat) : Option Value := match x with
  | .pointer (some a) => match P.underlying s with
    | some (.struct fields) => match fields[f]? with
      | some fl => match sizeA P fl.type with
        | some (_ + 1) => some (.pointer (some ⟨a.block, a.off + fl.offset, none⟩))
        | _ => none
      | none => none
    | _ => none
  | _ => none
theorem fieldAddr_sound {P : Program} {r : Nat → Option (Nat × Nat)} {v x x' : Value} (s : TypeId) (f : Nat) (hx : VR r x x') (h : fieldAddrA P s x f = some v) :
    ∃ v', (∀ w, (Instr.fieldAt s x' f).run P w = .ok v' w) ∧ VR r v v' := by
  unfold fieldAddrA at h
  split at h
  case h_2 => cases h
  rename_i a
  obtain ⟨hs, g, hg, rfl⟩ := hx.of_ptr
  split at h
  case h_2 => cases h
  rename_i fields hu
  split at h
  case h_2 => cases h
  rename_i fl hf
  split at h
  case h_2 => cases h
  rename_i n hn
  cases h
  refine ⟨.pointer (some ⟨g.1, a.off + fl.offset, none⟩), fun w => ?_, .ptr _ _ _ hg⟩
  simp [Instr.fieldAt, underlying, hu, hf, Instr.sureAddr, fieldPlace, sizeA_run hn, add_at]

def indexAddrA (P : Program) (t : TypeId) (x ix : Value) : Option Value := match ix with
  | .int _ i => match P.underlying t with
    | some (.array len e) => match x with
      | .pointer (some a) => match sizeA P e with
        | some n => bif decide (0 ≤ i) && decide (i < len) then some (.pointer (some ⟨a.block, a.off + i.toNat * n, none⟩)) else none
        | none => none
      | _ => none
    | some (.slice e) => match x with
      | .slice (some a) len _ => match sizeA P e with
        | some n => bif decide (0 ≤ i) && decide (i < len) then some (.pointer (some ⟨a.block, a.off + i.toNat * n, none⟩)) else none
        | none => none
      | _ => none
    | _ => none
  | _ => none
theorem indexAddr_sound {P : Program} {r : Nat → Option (Nat × Nat)} {v x x' ix ix' : Value} (t : TypeId) (hx : VR r x x') (hi : VR r ix ix') (h : indexAddrA P t x ix = some v) :
    ∃ v', (∀ w, (Instr.indexAt t x' ix').run P w = .ok v' w) ∧ VR r v v' := by
  unfold indexAddrA at h
  split at h
  case h_2 => cases h
  rename_i k i
  have := hi.int; subst this
  split at h
  case h_3 => cases h
  · rename_i len e hu
    split at h
    case h_2 => cases h
    rename_i a
    obtain ⟨hs, g, hg, rfl⟩ := hx.of_ptr
    split at h
    case h_2 => cases h
    rename_i n hn
    generalize hc : (decide (0 ≤ i) && decide (i < (len : Int))) = c at h
    cases c with
    | false => cases h
    | true =>
      cases h
      simp only [Bool.and_eq_true, decide_eq_true_eq] at hc
      refine ⟨.pointer (some ⟨g.1, a.off + i.toNat * n, none⟩), fun w => ?_, .ptr _ _ _ hg⟩
      simp [Instr.indexAt, asIntOf, underlying, hu, Instr.sureAddr, hc.1, hc.2, sizeA_run hn, add_at]
  · rename_i e hu
    split at h
    case h_2 => cases h
    rename_i a len cap
    obtain ⟨hs, g, c', hg, hcap, ht, rfl⟩ := hx.of_slice
    split at h
    case h_2 => cases h
    rename_i n hn
    generalize hc : (decide (0 ≤ i) && decide (i < (len : Int))) = c at h
    cases c with
    | false => cases h
    | true =>
      cases h
      simp only [Bool.and_eq_true, decide_eq_true_eq] at hc
      refine ⟨.pointer (some ⟨g.1, a.off + i.toNat * n, none⟩), fun w => ?_, .ptr _ _ _ hg⟩
      simp [Instr.indexAt, asIntOf, underlying, hu, hc.1, hc.2, sizeA_run hn, add_at]

def partA (P : Program) (t : TypeId) (cs : List Value) (o : Nat) : Option Value := match aggT P t with
  | some true => match sizeA P t with
    | some n => some (.agg ((cs.drop o).take n).toArray)
    | none => none
  | some false => cs[o]?
  | none => none
theorem part_sound {P : Program} {r : Nat → Option (Nat × Nat)} {v : Value} (t : TypeId) {cs : List Value} {cc : Array Value} (o : Nat) (hx : LR r cs cc.toList) (h : partA P t cs o = some v) :
    ∃ v', (∀ w, (part t cc o).run P w = .ok v' w) ∧ VR r v v' := by
  unfold partA at h
  cases hb : aggT P t with
  | none => rw [hb] at h; cases h
  | some b =>
    rw [hb] at h
    cases b with
    | false =>
      obtain ⟨y, h1, h2⟩ := hx.get h
      have h1' : cc[o]? = some y := by simpa using h1
      exact ⟨y, fun w => by simp [part, aggT_run hb, h1'], h2⟩
    | true =>
      cases hn : sizeA P t with
      | none => rw [hn] at h; cases h
      | some n =>
        rw [hn] at h; cases h
        refine ⟨.agg ((cc.toList.drop o).take n).toArray, fun w => ?_, .agg' ((hx.drop o).take n)⟩
        simp only [part, Sem.run_bind, aggT_run hb, Result.andThen_ok, if_true, sizeA_run hn, Sem.run_pure, Result.ok.injEq, and_true, Value.agg.injEq]
        apply Array.ext'
        simp only [Array.toList_extract, List.extract_eq_take_drop, Nat.add_sub_cancel_left]

def fieldA (P : Program) (t : TypeId) (x : Value) (f : Nat) : Option Value := match x with
  | .agg cs => match P.underlying t with
    | some (.struct fields) => match fields[f]? with
      | some fl => partA P fl.type cs.toList fl.offset
      | none => none
    | _ => none
  | _ => none
theorem field_sound {P : Program} {r : Nat → Option (Nat × Nat)} {v x x' : Value} (t : TypeId) (f : Nat) (hx : VR r x x') (h : fieldA P t x f = some v) :
    ∃ v', (∀ w, (Instr.field t x' f).run P w = .ok v' w) ∧ VR r v v' := by
  unfold fieldA at h
  split at h
  case h_2 => cases h
  rename_i cs
  obtain ⟨ys, rfl, hl⟩ := hx.of_agg
  split at h
  case h_2 => cases h
  rename_i fields hu
  split at h
  case h_2 => cases h
  rename_i fl hf
  obtain ⟨v', h1, h2⟩ := part_sound fl.type fl.offset hl h
  exact ⟨v', fun w => by simp [Instr.field, underlying, hu, hf, asAgg, h1], h2⟩

def extractA (x : Value) (i : Nat) : Option Value := match x with
  | .tuple vs => vs.toList[i]?
  | _ => none
theorem extract_sound {P : Program} {r : Nat → Option (Nat × Nat)} {v x x' : Value} (i : Nat) (hx : VR r x x') (h : extractA x i = some v) :
    ∃ v', (∀ w, (Instr.extract x' i).run P w = .ok v' w) ∧ VR r v v' := by
  unfold extractA at h
  split at h
  case h_2 => cases h
  obtain ⟨ys, rfl, hl⟩ := hx.of_tuple
  obtain ⟨y, h1, h2⟩ := hl.get h
  have h1' : ys[i]? = some y := by simpa using h1
  exact ⟨y, fun w => by simp [Instr.extract, h1'], h2⟩

/-! ### Rows of operands. -/
def evs (env : Env) : List Operand → Option (List Value)
  | [] => some []
  | x :: r => match ev env x with
    | some v => match evs env r with
      | some vs => some (v :: vs)
      | none => none
    | none => none
theorem evs_sound {r : Nat → Option (Nat × Nat)} {env : Env} {a : Act} (h : ER r env a.tmps) : ∀ {xs : List Operand} {vs : List Value}, evs env xs = some vs → LR r vs (xs.map a.eval)
  | [], vs, hv => by cases hv; exact .nil r
  | x :: xs, vs, hv => by
    simp only [evs] at hv
    cases h1 : ev env x with
    | none => rw [h1] at hv; cases hv
    | some v =>
      rw [h1] at hv
      cases h2 : evs env xs with
      | none => rw [h2] at hv; cases hv
      | some us => rw [h2] at hv; cases hv; exact .cons (ev_sound h h1) (evs_sound h h2)

/-! ### Slices cut. -/
def boundA (x : Option Value) (dflt top : Nat) : Option Nat := match x with
  | none => some dflt
  | some (.int _ i) => bif decide (0 ≤ i) && decide (i ≤ (top : Int)) then some i.toNat else none
  | some _ => none
theorem bound_run {P : Program} {w : World} {k : IntKind} {i : Int} {top : Nat} (code : BoundsCode) (h0 : 0 ≤ i) (h1 : i ≤ top) : (Instr.sliceBound (.int k i) top code).run P w = .ok i.toNat w := by
  simp [Instr.sliceBound, asIntOf, h0, h1]

/-- Low, high, top of a slice expression: the top is at least what it is said to be where it is not given. -/
def boundsA (len cap : Nat) (lo hi mx : Option Value) : Option (Nat × Nat × Nat) := match boundA mx cap cap with
  | some m => match boundA hi len m with
    | some h => match boundA lo 0 h with
      | some l => bif mx.isNone || hi.isSome then some (l, h, m) else none
      | none => none
    | none => none
  | none => none
def OR (r : Nat → Option (Nat × Nat)) (x y : Option Value) : Prop := match x, y with
  | none, none => True
  | some u, some v => VR r u v
  | _, _ => False
theorem bounds_sound {P : Program} {r : Nat → Option (Nat × Nat)} (sl : Bool) {len cap cap' l h m : Nat} {lo hi mx lo' hi' mx' : Option Value} (hc : cap ≤ cap') (h1 : OR r lo lo') (h2 : OR r hi hi') (h3 : OR r mx mx')
    (hh : boundsA len cap lo hi mx = some (l, h, m)) : ∃ m', (∀ w, (Instr.sliceBounds sl len cap' lo' hi' mx').run P w = .ok (l, h, m') w) ∧ m ≤ m' ∧ (mx.isSome = true → m' = m) ∧ (mx.isSome = false → m' = cap' ∧ m = cap) := by
  unfold boundsA at hh
  cases hm : boundA mx cap cap with
  | none => rw [hm] at hh; cases hh
  | some m0 =>
    rw [hm] at hh
    simp only at hh
    cases hb : boundA hi len m0 with
    | none => rw [hb] at hh; cases hh
    | some h0 =>
      rw [hb] at hh
      simp only at hh
      cases hl : boundA lo 0 h0 with
      | none => rw [hl] at hh; cases hh
      | some l0 =>
        rw [hl] at hh
        simp only at hh
        generalize hcc : (mx.isNone || hi.isSome) = c at hh
        cases c with
        | false => cases hh
        | true =>
          cases hh
          have lowrun : (lo' = none ∧ l = 0) ∨ ∃ u, lo' = some u ∧ ∀ (code : BoundsCode) (w : World), (Instr.sliceBound u h code).run P w = .ok l w := by
            cases lo with
            | none => cases lo' with
              | none => simp [boundA] at hl; subst hl; exact .inl ⟨rfl, rfl⟩
              | some _ => exact h1.elim
            | some u => cases lo' with
              | none => exact h1.elim
              | some u' =>
                cases u <;> simp only [boundA] at hl <;> try cases hl
                rename_i k i
                have := VR.int h1; subst this
                generalize hd : (decide (0 ≤ i) && decide (i ≤ (h : Int))) = d at hl
                cases d with
                | false => cases hl
                | true => cases hl; simp only [Bool.and_eq_true, decide_eq_true_eq] at hd; exact .inr ⟨_, rfl, fun code w => bound_run code hd.1 hd.2⟩
          cases mx with
          | none =>
            cases mx' with
            | some _ => exact h3.elim
            | none =>
              simp only [boundA, Option.some.injEq] at hm
              subst hm
              refine ⟨cap', fun w => ?_, hc, by simp, fun _ => ⟨rfl, rfl⟩⟩
              cases hi with
              | none => cases hi' with
                | some _ => exact h2.elim
                | none =>
                  simp only [boundA, Option.some.injEq] at hb
                  subst hb
                  rcases lowrun with ⟨rfl, rfl⟩ | ⟨u, rfl, hrun⟩
                  · simp [Instr.sliceBounds]
                  · simp [Instr.sliceBounds, hrun]
              | some u => cases hi' with
                | none => exact h2.elim
                | some u' =>
                  cases u <;> simp only [boundA] at hb <;> try cases hb
                  rename_i k i
                  have := VR.int h2; subst this
                  generalize hd : (decide (0 ≤ i) && decide (i ≤ (cap : Int))) = d at hb
                  cases d with
                  | false => cases hb
                  | true =>
                    cases hb
                    simp only [Bool.and_eq_true, decide_eq_true_eq] at hd
                    have hb1 := bound_run (P := P) (w := w) (k := k) (if sl then .sliceAcap else .sliceAlen) hd.1 (show i ≤ (cap' : Int) by omega)
                    rcases lowrun with ⟨rfl, rfl⟩ | ⟨u, rfl, hrun⟩
                    · simp [Instr.sliceBounds, hb1]
                    · simp [Instr.sliceBounds, hb1, hrun]
          | some u =>
            cases mx' with
            | none => exact h3.elim
            | some u' =>
              cases u <;> simp only [boundA] at hm <;> try cases hm
              rename_i k i
              have := VR.int h3; subst this
              generalize hd : (decide (0 ≤ i) && decide (i ≤ (cap : Int))) = d at hm
              cases d with
              | false => cases hm
              | true =>
                cases hm
                simp only [Bool.and_eq_true, decide_eq_true_eq] at hd
                refine ⟨i.toNat, fun w => ?_, Nat.le_refl _, fun _ => rfl, by simp⟩
                cases hi with
                | none => simp at hcc
                | some q => cases hi' with
                  | none => exact h2.elim
                  | some q' =>
                    cases q <;> simp only [boundA] at hb <;> try cases hb
                    rename_i k2 i2
                    have := VR.int h2; subst this
                    generalize hd2 : (decide (0 ≤ i2) && decide (i2 ≤ ((i.toNat : Nat) : Int))) = d2 at hb
                    cases d2 with
                    | false => cases hb
                    | true =>
                      cases hb
                      simp only [Bool.and_eq_true, decide_eq_true_eq] at hd2
                      have hb1 := bound_run (P := P) (w := w) (k := k) (if sl then .slice3Acap else .slice3Alen) hd.1 (show i ≤ (cap' : Int) by omega)
                      have hb2 := bound_run (P := P) (w := w) (k := k2) .slice3B hd2.1 hd2.2
                      rcases lowrun with ⟨rfl, rfl⟩ | ⟨u, rfl, hrun⟩
                      · simp [Instr.sliceBounds, hb1, hb2]
                      · simp [Instr.sliceBounds, hb1, hb2, hrun]

def sliceA (P : Program) (t : TypeId) (x : Value) (lo hi mx : Option Value) : Option Value := match P.underlying t with
  | some (.slice e) => match x with
    | .slice (some a) len cap => match boundsA len cap lo hi mx with
      | some (l, h, m) => match sizeA P e with
        | some n => bif Nat.ble l m && ((Nat.beq l 0 || (!(Nat.beq m l) || mx.isSome)) && (Nat.beq l 0 || (Nat.beq (a.block % 64) 0 || (Nat.beq (a.block % 64) n || Nat.beq (a.block % 64) 63)))) then some (.slice (some (bif Nat.beq m l then ⟨a.block, a.off, none⟩ else ⟨a.block, a.off + l * n, none⟩)) (h - l) (m - l)) else none
        | none => none
      | none => none
    | _ => none
  | some (.array len e) => match x with
    | .pointer (some a) => match boundsA len len lo hi mx with
      | some (l, h, m) => match sizeA P e with
        | some n => some (.slice (some (bif Nat.beq m l then ⟨a.block, a.off, none⟩ else ⟨a.block, a.off + l * n, none⟩)) (h - l) (m - l))
        | none => none
      | none => none
    | _ => none
  | _ => none
theorem slack {c c' o z T l n : Nat} (h : c' = c ∨ (0 < z ∧ o + c' * z = T) ∨ z = 63) (hl : l ≤ c') (hz : l = 0 ∨ z = 0 ∨ z = n ∨ z = 63) : c' - l = c - l ∨ (0 < z ∧ (o + l * n) + (c' - l) * z = T) ∨ z = 63 := by
  rcases h with h | ⟨h0, h⟩ | h
  · exact .inl (by rw [h])
  · rcases hz with hz | hz | hz | hz
    · refine .inr (.inl ⟨h0, ?_⟩)
      subst hz; simpa using h
    · omega
    · refine .inr (.inl ⟨h0, ?_⟩)
      subst hz
      have : (c' - l) * z + l * z = c' * z := by rw [← Nat.add_mul, Nat.sub_add_cancel hl]
      omega
    · exact .inr (.inr hz)
  · exact .inr (.inr h)
theorem slice_sound {P : Program} {r : Nat → Option (Nat × Nat)} {v x x' : Value} {lo hi mx lo' hi' mx' : Option Value} (t : TypeId) (hx : VR r x x') (h1 : OR r lo lo') (h2 : OR r hi hi') (h3 : OR r mx mx')
    (h : sliceA P t x lo hi mx = some v) : ∃ v', (∀ w, (Instr.sliceAt t x' lo' hi' mx').run P w = .ok v' w) ∧ VR r v v' := by
  unfold sliceA at h
  split at h
  case h_3 => cases h
  · rename_i e hu
    split at h
    case h_2 => cases h
    rename_i a len cap
    obtain ⟨hs, g, c', hg, hcap, ht, rfl⟩ := hx.of_slice
    split at h
    case h_2 => cases h
    rename_i l hh m hb
    split at h
    case h_2 => cases h
    rename_i n hn
    obtain ⟨m', hrun, hm, hm1, hm2⟩ := bounds_sound (P := P) true hcap h1 h2 h3 hb
    generalize hc : (Nat.ble l m && ((Nat.beq l 0 || (!(Nat.beq m l) || mx.isSome)) && (Nat.beq l 0 || (Nat.beq (a.block % 64) 0 || (Nat.beq (a.block % 64) n || Nat.beq (a.block % 64) 63))))) = c at h
    cases c with
    | false => cases h
    | true =>
      cases h
      simp only [Bool.and_eq_true] at hc
      obtain ⟨hlm0, hc, hct⟩ := hc
      have hlm := Nat.le_of_ble_eq_true hlm0
      by_cases hml : m = l
      · subst hml
        have hbb : Nat.beq m m = true := by simp
        simp only [hbb, cond_true]
        have hsl : m' - m = m - m ∨ (0 < a.block % 64 ∧ a.off + (m' - m) * (a.block % 64) = g.2) ∨ a.block % 64 = 63 := by
          cases hq : mx.isSome with
          | true => exact .inl (by rw [hm1 hq])
          | false =>
            obtain ⟨e1, e2⟩ := hm2 hq
            have hl0 : m = 0 := by rw [hbb, hq] at hc; simpa using hc
            rw [← e1, ← e2] at ht
            have := slack (l := m) (n := 0) ht hm (.inl hl0)
            simpa using this
        refine ⟨.slice (some ⟨g.1, a.off, none⟩) (hh - m) (m' - m), fun w => ?_, .slice _ _ _ _ _ _ hg (by omega) hsl⟩
        simp only [Instr.sliceAt, Instr.slice, Sem.run_bind, underlying, run_program, Result.andThen_ok, hu, Sem.run_pure, hrun, sizeA_run hn]
        by_cases hmm : m' = m
        · simp [hmm]
        · have hl0 : m = 0 := by
            cases hq : mx.isSome with
            | true => exact absurd (hm1 hq) hmm
            | false => rw [hbb, hq] at hc; simpa using hc
          subst hl0
          simp [hmm, add_at]
      · have hbb : Nat.beq m l = false := beq_ne hml
        simp only [hbb, cond_false]
        have hmm : ¬ m' = l ∨ m' = l := (Classical.em _).symm
        rcases hmm with hmm | hmm
        · have hsl : m' - l = m - l ∨ (0 < a.block % 64 ∧ (a.off + l * n) + (m' - l) * (a.block % 64) = g.2) ∨ a.block % 64 = 63 := by
            cases hq : mx.isSome with
            | true => exact .inl (by rw [hm1 hq])
            | false =>
              obtain ⟨e1, e2⟩ := hm2 hq
              rw [← e1, ← e2] at ht
              refine slack ht (by omega) ?_
              simp only [Bool.or_eq_true] at hct
              rcases hct with q | q | q | q
              · exact .inl (Nat.eq_of_beq_eq_true q)
              · exact .inr (.inl (Nat.eq_of_beq_eq_true q))
              · exact .inr (.inr (.inl (Nat.eq_of_beq_eq_true q)))
              · exact .inr (.inr (.inr (Nat.eq_of_beq_eq_true q)))
          refine ⟨.slice (some ⟨g.1, a.off + l * n, none⟩) (hh - l) (m' - l), fun w => ?_, .slice _ _ _ _ _ _ hg (by omega) hsl⟩
          simp [Instr.sliceAt, Instr.slice, underlying, hu, hrun, sizeA_run hn, hmm, add_at]
        · exfalso
          omega
  · rename_i len e hu
    split at h
    case h_2 => cases h
    rename_i a
    obtain ⟨hs, g, hg, rfl⟩ := hx.of_ptr
    split at h
    case h_2 => cases h
    rename_i l hh m hb
    split at h
    case h_2 => cases h
    rename_i n hn
    cases h
    obtain ⟨m', hrun, hm, hm1, hm2⟩ := bounds_sound (P := P) false (Nat.le_refl len) h1 h2 h3 hb
    have hmm : m' = m := by
      cases hq : mx.isSome with
      | true => exact hm1 hq
      | false => exact (hm2 hq).1.trans (hm2 hq).2.symm
    subst hmm
    by_cases hml : m' = l
    · subst hml
      have hbb : Nat.beq m' m' = true := by simp
      simp only [hbb, cond_true]
      refine ⟨.slice (some ⟨g.1, a.off, none⟩) (hh - m') (m' - m'), fun w => ?_, .slice _ _ _ _ _ _ hg (Nat.le_refl _) (.inl rfl)⟩
      simp [Instr.sliceAt, underlying, hu, Instr.sureAddr, hrun, sizeA_run hn]
    · have hbb : Nat.beq m' l = false := beq_ne hml
      simp only [hbb, cond_false]
      refine ⟨.slice (some ⟨g.1, a.off + l * n, none⟩) (hh - l) (m' - l), fun w => ?_, .slice _ _ _ _ _ _ hg (Nat.le_refl _) (.inl rfl)⟩
      simp [Instr.sliceAt, underlying, hu, Instr.sureAddr, hrun, sizeA_run hn, hml, add_at]
end Ev
end Go.Proofs.Ytjinpngojdefiaa
/-! ## E -/
namespace Go.Proofs.Ytjinpngojdefiaa
open Go.RowKit
namespace Ev

/-! ### Rows filled. -/
def putRow (cs : List Value) (o : Nat) (xs : List Value) : List Value := cs.take o ++ xs ++ cs.drop (o + xs.length)
theorem putRow_rel {r : Nat → Option (Nat × Nat)} {cs cs' xs xs' : List Value} (h : LR r cs cs') (hx : LR r xs xs') (o : Nat) : LR r (putRow cs o xs) (putRow cs' o xs') := by
  unfold putRow
  rw [← hx.1]
  exact ((h.take o).append hx).append (h.drop _)
theorem foldl_set (off : Nat) : ∀ (xs : List Value) (k : Nat) (cs : Array Value), off + k + xs.length ≤ cs.size →
    (((xs.zipIdx k).foldl (fun cs p => cs.setIfInBounds (off + p.2) p.1) cs)).toList = cs.toList.take (off + k) ++ xs ++ cs.toList.drop (off + k + xs.length)
  | [], k, cs, _ => by simp
  | x :: xs, k, cs, h => by
    simp only [List.length_cons] at h
    rw [List.zipIdx_cons, List.foldl_cons, foldl_set off xs (k + 1) _ (by simp; omega)]
    simp only [Array.toList_setIfInBounds]
    apply List.ext_getElem?
    intro j
    have hlen : cs.toList.length = cs.size := by simp
    simp only [List.append_assoc, List.getElem?_append, List.length_take, List.length_set, List.getElem?_take, List.getElem?_set, List.getElem?_drop, List.length_cons, List.cons_append, List.getElem?_cons, hlen]
    repeat' split
    all_goals first
      | rfl
      | omega
      | (simp_all; done)
      | (congr 1; omega)
      | skip

def fillA (place : Nat → Option (Nat × Nat)) (cells : List Value) : List (Nat × Value) → Option (List Value)
  | [] => some cells
  | p :: rest => match place p.1 with
    | none => none
    | some q => bif Nat.beq (cellsOf' p.2).length q.2 && Nat.ble (q.1 + (cellsOf' p.2).length) cells.length then fillA place (putRow cells q.1 (cellsOf' p.2)) rest else none
def PR (r : Nat → Option (Nat × Nat)) : List (Nat × Value) → List (Nat × Value) → Prop
  | [], [] => True
  | p :: ps, q :: qs => p.1 = q.1 ∧ VR r p.2 q.2 ∧ PR r ps qs
  | _, _ => False
theorem fill_sound {r : Nat → Option (Nat × Nat)} {place : Nat → Option (Nat × Nat)} : ∀ {ps ps' : List (Nat × Value)} {cs rs : List Value} {cc : Array Value}, PR r ps ps' → LR r cs cc.toList → fillA place cs ps = some rs →
    ∃ rc, Instr.fill place cc ps' = some rc ∧ LR r rs rc.toList
  | [], [], cs, rs, cc, _, hc, h => by cases h; exact ⟨cc, rfl, hc⟩
  | [], _ :: _, _, _, _, hp, _, _ => hp.elim
  | _ :: _, [], _, _, _, hp, _, _ => hp.elim
  | (i, v) :: ps, (j, v') :: ps', cs, rs, cc, hp, hc, h => by
    obtain ⟨e, hv, hps⟩ := hp
    simp only at e hv
    subst e
    simp only [fillA] at h
    simp only [Instr.fill]
    cases hq : place i with
    | none => rw [hq] at h; cases h
    | some q =>
      obtain ⟨off, size⟩ := q
      rw [hq] at h
      simp only at h
      generalize hb : (Nat.beq (cellsOf' v).length size && Nat.ble (off + (cellsOf' v).length) cs.length) = b at h
      cases b with
      | false => cases h
      | true =>
        simp only [cond_true] at h
        simp only [Bool.and_eq_true] at hb
        have hrel := cellsOf_rel hv
        have h1 : v'.cells.size = size := by
          have := hrel.1
          rw [Nat.eq_of_beq_eq_true hb.1] at this
          simpa using this.symm
        have h2 : off + v'.cells.size ≤ cc.size := by
          have h3 := Nat.le_of_ble_eq_true hb.2
          have h4 := hrel.1
          have h5 := hc.1
          simp only [Array.length_toList] at h4 h5
          omega
        have hcond : (decide (v'.cells.size ≠ size) || decide (off + v'.cells.size > cc.size)) = false := by simp; omega
        have hfold : (Array.foldl (fun cs x => cs.setIfInBounds (off + x.2) x.1) cc v'.cells.zipIdx).toList = putRow cc.toList off v'.cells.toList := by
          have := foldl_set off v'.cells.toList 0 cc (by simpa using h2)
          rw [← Array.foldl_toList, Array.toList_zipIdx]
          simpa [putRow] using this
        obtain ⟨rc, h6, h7⟩ := fill_sound (cc := Array.foldl (fun cs x => cs.setIfInBounds (off + x.2) x.1) cc v'.cells.zipIdx) hps (by rw [hfold]; exact putRow_rel hc hrel off) h
        refine ⟨rc, ?_, h7⟩
        rw [← h6]
        simp only [hcond]
        rfl

def placesA (P : Program) : List Field → Option (List (Nat × Nat))
  | [] => some []
  | f :: fs => match sizeA P f.type with
    | some n => match placesA P fs with
      | some r => some ((f.offset, n) :: r)
      | none => none
    | none => none
theorem places_run {P : Program} {w : World} : ∀ {fs : List Field} {ps : List (Nat × Nat)}, placesA P fs = some ps → (fs.mapM fun f => (Prod.mk f.offset <$> Go.sizeOf f.type : Sem (Nat × Nat))).run P w = .ok ps w
  | [], ps, h => by cases h; rfl
  | f :: fs, ps, h => by
    simp only [placesA] at h
    cases hn : sizeA P f.type with
    | none => rw [hn] at h; cases h
    | some n =>
      rw [hn] at h
      simp only at h
      cases hr : placesA P fs with
      | none => rw [hr] at h; cases h
      | some q =>
        rw [hr] at h; cases h
        have ih := places_run (w := w) hr
        simp only [List.mapM_cons, Sem.run_bind, Sem.run_map, sizeA_run hn, Result.andThen_ok, Sem.run_pure, ih]

def buildA (P : Program) (t : TypeId) (parts : List (Nat × Value)) : Option Value := match zeroOf P t with
  | some z => match P.underlying t with
    | some (.struct fields) => match placesA P fields.toList with
      | some ps => match fillA (fun i => ps[i]?) (cellsOf' z) parts with
        | some cs => some (.agg cs.toArray)
        | none => none
      | none => none
    | some (.array _ e) => match sizeA P e with
      | some n => match fillA (fun i => some (i * n, n)) (cellsOf' z) parts with
        | some cs => some (.agg cs.toArray)
        | none => none
      | none => none
    | _ => none
  | none => none
theorem build_sound {P : Program} {r : Nat → Option (Nat × Nat)} {v : Value} (t : TypeId) {ps : List (Nat × Value)} {ps' : Array (Nat × Value)} (hp : PR r ps ps'.toList) (h : buildA P t ps = some v) :
    ∃ v', (∀ w, (Instr.build t ps').run P w = .ok v' w) ∧ VR r v v' := by
  unfold buildA at h
  cases hz : zeroOf P t with
  | none => rw [hz] at h; cases h
  | some z =>
    rw [hz] at h
    obtain ⟨ha, hzr⟩ := zeroOf_run hz
    have hzc := cellsOf_rel (.same (r := r) 4 z ha)
    simp only at h
    split at h
    case h_3 => cases h
    · rename_i fields hu
      cases hq : placesA P fields.toList with
      | none => rw [hq] at h; cases h
      | some q =>
        rw [hq] at h
        simp only at h
        cases hf : fillA (fun i => q[i]?) (cellsOf' z) ps with
        | none => rw [hf] at h; cases h
        | some cs =>
          rw [hf] at h; cases h
          obtain ⟨rc, h1, h2⟩ := fill_sound hp hzc hf
          have hpl : ∀ w, (fields.mapM fun f => (Prod.mk f.offset <$> Go.sizeOf f.type : Sem (Nat × Nat))).run P w = .ok q.toArray w := fun w => by
            rw [← Array.toArray_toList (xs := fields), List.mapM_toArray, Sem.run_map, places_run hq]
            rfl
          refine ⟨.agg rc, fun w => ?_, .agg _ _ (by simpa using h2.1) fun i x y hx hy => h2.2 i x y (by simpa using hx) (by simpa using hy)⟩
          simp [Instr.build, hzr, underlying, hu, hpl, h1]
    · rename_i n0 e hu
      cases hn : sizeA P e with
      | none => rw [hn] at h; cases h
      | some n =>
        rw [hn] at h
        simp only at h
        cases hf : fillA (fun i => some (i * n, n)) (cellsOf' z) ps with
        | none => rw [hf] at h; cases h
        | some cs =>
          rw [hf] at h; cases h
          obtain ⟨rc, h1, h2⟩ := fill_sound hp hzc hf
          refine ⟨.agg rc, fun w => ?_, .agg _ _ (by simpa using h2.1) fun i x y hx hy => h2.2 i x y (by simpa using hx) (by simpa using hy)⟩
          simp [Instr.build, hzr, underlying, hu, sizeA_run hn, h1]
end Ev
end Go.Proofs.Ytjinpngojdefiaa
/-! ## F -/
namespace Go.Proofs.Ytjinpngojdefiaa
open Go.RowKit
namespace Ev

theorem cells_at {r : Nat → Option (Nat × Nat)} {M : Mem} {w : World} (hM : MR r M w) {i : Nat} {g : Nat × Nat} {cs : List Value} (hl : look M.bl i = some cs) (hi : r i = some g) {o n : Nat} (hn : o + n ≤ cs.length) :
    ∃ ys : List Value, ys.length = n ∧ (∀ (j : Nat) v, ys[j]? = some v → w.cell? ((⟨g.1, o, none⟩ : Addr).add j) = some v) ∧ LR r ((cs.drop o).take n) ys := by
  obtain ⟨g', t, cc, h1, h2, h2t, h3⟩ := hM.blk i cs hl
  rw [hi] at h1; cases h1
  have hlen : ∀ j, j < cs.length → j < cc.size := fun j hj => by
    obtain ⟨v', h4, _⟩ := h3 j cs[j] (List.getElem?_eq_getElem hj)
    exact (Array.getElem?_eq_some_iff.1 h4).1
  have hys : ((cc.toList.drop o).take n).length = n := by
    simp only [List.length_take, List.length_drop, Array.length_toList]
    rcases Nat.eq_zero_or_pos n with h0 | h0
    · subst h0; simp
    · have := hlen (o + n - 1) (by omega); omega
  refine ⟨(cc.toList.drop o).take n, hys, fun j v hv => ?_, ?_⟩
  · rw [List.getElem?_take] at hv
    split at hv
    · rw [List.getElem?_drop] at hv
      rw [add_at, cell_of_row w g.1 (o + j) cc t (0, 0) h2]
      simpa using hv
    · cases hv
  · refine ⟨by rw [hys]; simp; omega, fun j x y hx hy => ?_⟩
    rw [List.getElem?_take] at hx hy
    split at hx
    · rename_i hj; rw [if_pos hj, List.getElem?_drop] at hy
      rw [List.getElem?_drop] at hx
      obtain ⟨v', h4, h5⟩ := h3 _ _ hx
      have : cc[o + j]? = some y := by simpa using hy
      rw [h4] at this; cases this; exact h5
    · cases hx

theorem LR.of_cells {r : Nat → Option (Nat × Nat)} {cs ys : List Value} {cc : Array Value} (h : LR r cs ys) (hc : ∃ zs, cc.toList = ys ++ zs) : ∀ (j : Nat) v, cs[j]? = some v → ∃ v', cc[j]? = some v' ∧ VR r v v' := fun j v hv => by
  obtain ⟨y, h1, h2⟩ := h.get hv
  obtain ⟨zs, hz⟩ := hc
  have hj : j < ys.length := by
    rcases Nat.lt_or_ge j ys.length with h | h
    · exact h
    · rw [List.getElem?_eq_none h] at h1; cases h1
  exact ⟨y, by rw [← Array.getElem?_toList, hz, List.getElem?_append_left hj]; exact h1, h2⟩

/-! ### Slices built and made. -/
def zrow (z : Value) (k : Nat) : List Value := match z with
  | .agg xs => (List.range k).map fun i => xs[i % xs.size]!
  | z => List.replicate k z
theorem zrow_eq (z : Value) (k : Nat) : ((Array.range k).map (z.cells[· % z.cells.size]!)).toList = zrow z k := by
  cases z with
  | agg xs => simp [zrow, Value.cells]
  | _ =>
    simp only [zrow, Value.cells, Array.toList_map, Array.toList_range]
    refine List.ext_getElem (by simp) fun i h1 h2 => ?_
    simp [Nat.mod_one]
theorem zrow_rel (r : Nat → Option (Nat × Nat)) {z : Value} (h : af 4 z = true) (k : Nat) : LR r (zrow z k) (zrow z k) := by
  cases z with
  | agg xs =>
    refine ⟨rfl, fun i x y hx hy => ?_⟩
    rw [hx] at hy; cases hy
    simp only [zrow, List.getElem?_map] at hx
    cases hr : (List.range k)[i]? with
    | none => rw [hr] at hx; cases hx
    | some j =>
      rw [hr] at hx
      simp only [Option.map_some, Option.some.injEq] at hx
      subst hx
      by_cases hj : j % xs.size < xs.size
      · rw [getElem!_pos xs _ hj]
        exact .same 3 _ (all_at h (Array.getElem?_eq_getElem hj))
      · rw [getElem!_neg xs _ hj]
        exact .same 1 _ rfl
  | _ =>
    refine LR.of_af (k := 4) ?_
    simp only [zrow, List.all_eq_true]
    intro x hx
    rw [(List.mem_replicate.1 hx).2]
    exact h

def buildSliceA (P : Program) (M : Mem) (t : TypeId) (len : Nat) (parts : List (Nat × Value)) : Option (Value × Mem) := match P.underlying t with
  | some (.slice e) => match sizeA P e with
    | some n => match zeroOf P e with
      | some z => bif Nat.ble 1 (len * n) && Nat.ble (len * n) 16777216 then
          match fillA (fun i => some (i * n, n)) (zrow z (len * n)) parts with
          | some cs => some (.slice (some ⟨64 * M.next, 0, none⟩) len len, M.new cs)
          | none => none
        else none
      | none => none
    | none => none
  | _ => none
theorem buildSlice_sound {P : Program} {r : Nat → Option (Nat × Nat)} {M M' : Mem} {w : World} {v : Value} (hM : MR r M w) (t : TypeId) (len : Nat) {ps : List (Nat × Value)} {ps' : Array (Nat × Value)} (hp : PR r ps ps'.toList) (h : buildSliceA P M t len ps = some (v, M')) :
    ∃ r' v' w', (Instr.buildSlice t len ps').run P w = .ok v' w' ∧ VR r' v v' ∧ MR r' M' w' ∧ Stp r M w r' M' w' := by
  unfold buildSliceA at h
  split at h
  case h_2 => cases h
  rename_i e hu
  cases hn : sizeA P e with
  | none => rw [hn] at h; cases h
  | some n =>
    rw [hn] at h
    simp only at h
    cases hz : zeroOf P e with
    | none => rw [hz] at h; cases h
    | some z =>
      rw [hz] at h
      simp only at h
      obtain ⟨ha, hzr⟩ := zeroOf_run hz
      generalize hc : (Nat.ble 1 (len * n) && Nat.ble (len * n) 16777216) = c at h
      cases c with
      | false => cases h
      | true =>
        simp only [cond_true] at h
        simp only [Bool.and_eq_true] at hc
        have h1 := Nat.le_of_ble_eq_true hc.1
        have h2 := Nat.le_of_ble_eq_true hc.2
        cases hf : fillA (fun i => some (i * n, n)) (zrow z (len * n)) ps with
        | none => rw [hf] at h; cases h
        | some cs =>
          rw [hf] at h; cases h
          have hzl : LR r (zrow z (len * n)) ((Array.range (len * n)).map (z.cells[· % z.cells.size]!)).toList := by rw [zrow_eq]; exact zrow_rel r ha _
          obtain ⟨rc, h3, h4⟩ := fill_sound hp hzl hf
          obtain ⟨r', w', h5, h6, h7, h8⟩ := new_var_sound (P := P) hM e h4
          refine ⟨r', .slice (some ⟨w.heap.size, 0, none⟩) len len, w', ?_, .slice _ _ _ _ _ _ h6 (Nat.le_refl _) (.inl rfl), h7, h8⟩
          have g1 : ¬ (len * n > 16777216) := by omega
          have g2 : ¬ (len * n = 0) := by omega
          simp [Instr.buildSlice, underlying, hu, sizeA_run hn, g1, hzr, h3, h5]
          intro h0
          exact absurd h0 g2

def makeSliceA (P : Program) (M : Mem) (t : TypeId) (l c : Value) : Option (Value × Mem) := match l, c with
  | .int _ l, .int _ c => match P.underlying t with
    | some (.slice e) => match P.info? e with
      | some i => match zeroOf P e with
        | some z => bif decide (0 ≤ l) && (decide (l ≤ c) && (Nat.ble (i.bytes * c.toNat) 281474976710656 && decide (c ≤ 9223372036854775807))) then
            some (.slice (some ⟨64 * M.next, 0, none⟩) l.toNat c.toNat, M.new (zrow z (c.toNat * i.size)))
          else none
        | none => none
      | none => none
    | _ => none
  | _, _ => none
theorem makeSlice_sound {P : Program} {r : Nat → Option (Nat × Nat)} {M M' : Mem} {w : World} {v l l' c c' : Value} (hM : MR r M w) (t : TypeId) (hl : VR r l l') (hc : VR r c c') (h : makeSliceA P M t l c = some (v, M')) :
    ∃ r' v' w', (Instr.makeSlice t l' c').run P w = .ok v' w' ∧ VR r' v v' ∧ MR r' M' w' ∧ Stp r M w r' M' w' := by
  unfold makeSliceA at h
  split at h
  case h_2 => cases h
  rename_i kl l kc c
  have := hl.int; subst this
  have := hc.int; subst this
  split at h
  case h_2 => cases h
  rename_i e hu
  cases hi : P.info? e with
  | none => rw [hi] at h; cases h
  | some i =>
    rw [hi] at h
    simp only at h
    cases hz : zeroOf P e with
    | none => rw [hz] at h; cases h
    | some z =>
      rw [hz] at h
      simp only at h
      have hz' := hz
      unfold zeroOf at hz'
      rw [hi] at hz'
      simp only at hz'
      obtain ⟨ha, _⟩ := zeroOf_run hz
      have hiz : i.zero = some z := by
        cases hq : i.zero with
        | none => rw [hq] at hz'; cases hz'
        | some u =>
          rw [hq] at hz'
          simp only at hz'
          cases hb : af 4 u with
          | false => rw [hb] at hz'; cases hz'
          | true => rw [hb] at hz'; cases hz'; rfl
      generalize hcc : (decide (0 ≤ l) && (decide (l ≤ c) && (Nat.ble (i.bytes * c.toNat) 281474976710656 && decide (c ≤ 9223372036854775807)))) = d at h
      cases d with
      | false => cases h
      | true =>
        rw [cond_true] at h
        cases h
        simp only [Bool.and_eq_true, decide_eq_true_eq] at hcc
        obtain ⟨c1, c2, c3, c4⟩ := hcc
        have c3' := Nat.le_of_ble_eq_true c3
        have hbytes : (i.bytes : Int) * c ≤ 281474976710656 := by
          have e1 : ((c.toNat : Nat) : Int) = c := Int.toNat_of_nonneg (by omega)
          have e2 : ((i.bytes * c.toNat : Nat) : Int) ≤ ((281474976710656 : Nat) : Int) := Int.ofNat_le.2 c3'
          rw [Int.natCast_mul, e1] at e2
          omega
        have hrun := run_make (P := P) w t e i z hu hi hiz kl kc l c c1 c2 hbytes c4
        have hrel : LR r (zrow z (c.toNat * i.size)) (madeCells z.cells (c.toNat * i.size)).toList := by
          unfold madeCells; rw [zrow_eq]; exact zrow_rel r ha _
        obtain ⟨r', w', h5, h6, h7, h8⟩ := new_var_sound (P := P) hM e hrel
        have hw : w' = w.alloc (.cells (madeCells z.cells (c.toNat * i.size)) e) := by
          simp [newRow] at h5; exact h5.symm
        subst hw
        exact ⟨r', _, _, hrun, .slice _ _ _ _ _ _ h6 (Nat.le_refl _) (.inl rfl), h7, h8⟩

/-! ### Octets to a text. -/
def octets : List Value → Option (List Int)
  | [] => some []
  | .int .u8 n :: r => match octets r with
    | some q => some (n :: q)
    | none => none
  | _ => none
theorem octets_sound {r : Nat → Option (Nat × Nat)} : ∀ {xs ys : List Value} {ns : List Int}, octets xs = some ns → LR r xs ys → ys = ns.map (Value.int .u8)
  | [], ys, ns, h, hr => by
    cases h
    cases ys with
    | nil => rfl
    | cons y ys => exact absurd hr.1 (by simp)
  | x :: xs, ys, ns, h, hr => by
    cases ys with
    | nil => exact absurd hr.1 (by simp)
    | cons y ys =>
      unfold octets at h
      split at h
      case h_1 => rename_i e; cases e
      case h_3 => cases h
      rename_i n q e
      cases e
      split at h
      case h_2 => cases h
      rename_i q' hq
      cases h
      rw [octets_sound hq hr.tail, hr.head.int]
      rfl
def textA (M : Mem) (x : Value) : Option Value := match x with
  | .slice (some a) n _ => match look M.bl a.block with
    | some cs => bif Nat.ble (a.off + n) cs.length then match octets ((cs.drop a.off).take n) with
      | some ns => some (.string (ns.foldl (fun r n => r.push (UInt8.ofNat n.toNat)) ByteArray.empty))
      | none => none
      else none
    | none => none
  | _ => none
theorem text_sound {P : Program} {r : Nat → Option (Nat × Nat)} {M : Mem} {w : World} {v x x' : Value} (hM : MR r M w) (hx : VR r x x') (h : textA M x = some v) : (Conv.bytesToString x').run P w = .ok v w := by
  unfold textA at h
  split at h
  case h_2 => cases h
  rename_i a n c
  obtain ⟨hs, g, c', hg, hcap, ht, rfl⟩ := hx.of_slice
  cases hl : look M.bl a.block with
  | none => rw [hl] at h; cases h
  | some cs =>
    rw [hl] at h
    simp only at h
    cases hle : Nat.ble (a.off + n) cs.length with
    | false => rw [hle] at h; cases h
    | true =>
      rw [hle] at h
      simp only [cond_true] at h
      cases ho : octets ((cs.drop a.off).take n) with
      | none => rw [ho] at h; cases h
      | some ns =>
        rw [ho] at h
        cases h
        obtain ⟨ys, _, h2, h3⟩ := cells_sound hM hl hg (Nat.le_of_ble_eq_true hle)
        have := octets_sound ho h3
        subst this
        exact run_bytesToString w _ n c' ns (h2 P)
theorem textA_string {M : Mem} {v x : Value} (h : textA M x = some v) : ∃ s, v = .string s := by
  unfold textA at h
  split at h
  case h_2 => cases h
  rename_i a n c
  cases hl : look M.bl a.block with
  | none => rw [hl] at h; cases h
  | some cs =>
    rw [hl] at h
    simp only at h
    cases hle : Nat.ble (a.off + n) cs.length with
    | false => rw [hle] at h; cases h
    | true =>
      rw [hle] at h
      simp only [cond_true] at h
      cases ho : octets ((cs.drop a.off).take n) with
      | none => rw [ho] at h; cases h
      | some ns => rw [ho] at h; cases h; exact ⟨_, rfl⟩
def convertA (P : Program) (M : Mem) (s d : TypeId) (x : Value) : Option Value := match P.underlying s with
  | some (.slice e) => match P.underlying d with
    | some .string => match P.underlying e with
      | some (.int .u8) => textA M x
      | _ => none
    | _ => none
  | _ => none
theorem convert_sound {P : Program} {r : Nat → Option (Nat × Nat)} {M : Mem} {w : World} {v x x' : Value} (hM : MR r M w) (s d : TypeId) (hx : VR r x x') (h : convertA P M s d x = some v) : (convert s d x').run P w = .ok v w ∧ VR r v v := by
  unfold convertA at h
  split at h
  case h_2 => cases h
  rename_i e hs
  split at h
  case h_2 => cases h
  rename_i hd
  split at h
  case h_2 => cases h
  rename_i he
  have h2 := text_sound (P := P) hM hx h
  obtain ⟨s0, rfl⟩ := textA_string h
  have hv : VR r (.string s0) (.string s0) := .same 1 _ rfl
  refine ⟨?_, hv⟩
  unfold textA at h
  split at h
  case h_2 => cases h
  rename_i a n c
  obtain ⟨_, g, c', hg, hcap, ht, rfl⟩ := hx.of_slice
  rw [← h2]
  exact run_convert_bytes_string w s d e _ n c' hs he hd
end Ev
end Go.Proofs.Ytjinpngojdefiaa
/-! ## G -/
namespace Go.Proofs.Ytjinpngojdefiaa
open Go.RowKit
namespace Ev

/-- A slice's cells, all of one cell: what is appended. -/
def srcA (M : Mem) (n : Nat) (x : Value) : Option (Nat × List Value) := match x with
  | .slice (some b) m _ => match look M.bl b.block with
    | some cs => bif Nat.ble (b.off + m * n) cs.length && ((cs.drop b.off).take (m * n)).all (·.oneCell') then some (m, (cs.drop b.off).take (m * n)) else none
    | none => none
  | _ => none
theorem src_sound {r : Nat → Option (Nat × Nat)} {M : Mem} {w : World} (hM : MR r M w) {n m : Nat} {x x' : Value} {xs : List Value} (hx : VR r x x') (h : srcA M n x = some (m, xs)) :
    ∃ (a : Addr) (c : Nat) (ys : List Value), x' = .slice (some a) m c ∧ ys.length = m * n ∧ xs.length = m * n ∧ (∀ (j : Nat) v, ys[j]? = some v → w.cell? (a.add j) = some v) ∧ LR r xs ys ∧ ∀ u ∈ ys, u.oneCell' = true := by
  unfold srcA at h
  split at h
  case h_2 => cases h
  rename_i b m' c
  obtain ⟨hs, g, c', hg, hcap, ht, rfl⟩ := hx.of_slice
  cases hl : look M.bl b.block with
  | none => rw [hl] at h; cases h
  | some cs =>
    rw [hl] at h
    simp only at h
    generalize hc : (Nat.ble (b.off + m' * n) cs.length && ((cs.drop b.off).take (m' * n)).all (·.oneCell')) = d at h
    cases d with
    | false => cases h
    | true =>
      cases h
      simp only [Bool.and_eq_true] at hc
      obtain ⟨ys, h1, h2, h3⟩ := cells_at hM hl hg (Nat.le_of_ble_eq_true hc.1)
      refine ⟨_, c', ys, rfl, h1, by rw [h3.1, h1], h2, h3, fun v hv => ?_⟩
      obtain ⟨j, hj⟩ := List.mem_iff_getElem?.1 hv
      have hjl : j < ((cs.drop b.off).take (m * n)).length := by
        rcases Nat.lt_or_ge j ys.length with h | h
        · rw [h3.1]; exact h
        · rw [List.getElem?_eq_none h] at hj; cases hj
      exact oneCell_of (h3.2 j _ _ (List.getElem?_eq_getElem hjl) hj) (List.all_eq_true.1 hc.2 _ (List.getElem_mem hjl))

def appendA (P : Program) (M : Mem) (t : TypeId) (s x : Value) : Option (Value × Mem) := match P.underlying t with
  | some (.slice e) => match P.info? e with
    | some i => match zeroOf P e with
      | some z => bif Nat.beq z.cells.size i.size && (Nat.ble 1 i.size && Nat.ble i.size 62) then
        match srcA M i.size x with
        | some (m, xs) => match s with
          | .slice none 0 0 => bif Nat.ble 1 m && Nat.ble (m * i.bytes) 140737488355328 && Nat.ble m 9223372036854775807 then
              some (.slice (some ⟨64 * M.next + i.size, 0, none⟩) m m, M.newZ i.size xs) else none
          | .slice (some a) k c => match look M.bl a.block with
            | some cs =>
              bif Nat.ble (k * i.size) cs.length && (Nat.ble ((k + m) * i.bytes) 140737488355328 && (Nat.ble (k + m) 9223372036854775807 && Nat.beq a.off 0)) then
                bif Nat.ble (k + m) c then
                  bif Nat.ble M.lo a.block && Nat.ble (k * i.size + xs.length) cs.length then
                    some (.slice (some ⟨a.block, 0, none⟩) (k + m) c, { M with bl := upd M.bl a.block (putRow cs (k * i.size) xs) }) else none
                else bif Nat.beq (a.block % 64) 0 then
                  some (.slice (some ⟨64 * M.next + i.size, 0, none⟩) (k + m) (k + m), M.newZ i.size (cs.take (k * i.size) ++ xs))
                else bif Nat.ble M.lo a.block && Nat.beq (a.block % 64) i.size then
                  some (.slice (some ⟨64 * M.next + i.size, 0, none⟩) (k + m) (k + m), { M with next := M.next + 1, bl := (64 * M.next + i.size, cs.take (k * i.size) ++ xs) :: kill M.bl a.block })
                else none
              else none
            | none => none
          | _ => none
        | none => none
        else none
      | none => none
    | none => none
  | _ => none

theorem zeroOf_info {P : Program} {e : TypeId} {i : TypeInfo} {z : Value} (hi : P.info? e = some i) (hz : zeroOf P e = some z) : i.zero = some z := by
  unfold zeroOf at hz
  rw [hi] at hz
  simp only at hz
  cases hq : i.zero with
  | none => rw [hq] at hz; cases hz
  | some u =>
    rw [hq] at hz
    simp only at hz
    cases hb : af 4 u with
    | false => rw [hb] at hz; cases hz
    | true => rw [hb] at hz; cases hz; rfl

theorem kill_sub (bl : List (Nat × List Value)) (b k : Nat) (ds : List Value) : ∀ i cs, look ((k, ds) :: kill bl b) i = some cs → look ((k, ds) :: bl) i = some cs ∨ (k ≠ i ∧ b = i) := fun i cs h => by
  rw [look_cons] at h ⊢
  by_cases hk : k = i
  · rw [if_pos hk] at h ⊢; exact .inl h
  · rw [if_neg hk] at h ⊢
    rw [look_kill] at h
    split at h
    · cases h
    · exact .inl h

/-- What the model's append does with a source of its own cells: there is room, or a new row is made. -/
theorem append_sound {P : Program} {r : Nat → Option (Nat × Nat)} {M M' : Mem} {w : World} {v s s' x x' : Value} (hM : MR r M w) (t ty : TypeId) (hs : VR r s s') (hx : VR r x x') (h : appendA P M t s x = some (v, M')) :
    ∃ r' v' w', (Builtin.append_ #[t, t] ty #[s', x']).run P w = .ok v' w' ∧ VR r' v v' ∧ MR r' M' w' ∧ Stp r M w r' M' w' := by
  unfold appendA at h
  split at h
  case h_2 => cases h
  rename_i e hu
  cases hi : P.info? e with
  | none => rw [hi] at h; cases h
  | some i =>
    rw [hi] at h
    simp only at h
    cases hz : zeroOf P e with
    | none => rw [hz] at h; cases h
    | some z =>
      rw [hz] at h
      simp only at h
      have hiz := zeroOf_info hi hz
      generalize hc : (Nat.beq z.cells.size i.size && (Nat.ble 1 i.size && Nat.ble i.size 62)) = d at h
      cases d with
      | false => cases h
      | true =>
        simp only [cond_true] at h
        simp only [Bool.and_eq_true] at hc
        have hzs : z.cells.size = i.size := Nat.eq_of_beq_eq_true hc.1
        have hn1 : 1 ≤ i.size := Nat.le_of_ble_eq_true hc.2.1
        have hn2 : i.size ≤ 62 := Nat.le_of_ble_eq_true hc.2.2
        cases hsrc : srcA M i.size x with
        | none => rw [hsrc] at h; cases h
        | some mx =>
          obtain ⟨m, xs⟩ := mx
          rw [hsrc] at h
          simp only at h
          obtain ⟨ax, cx, ys, rfl, hyl, hxl, hyc, hrel, hone⟩ := src_sound hM hx hsrc
          have hsz : ∀ k, (Builtin.zeroCells z.cells k).size = k * i.size := fun k => by rw [size_zeroCells, hzs]
          have tagof : (64 * M.next + i.size) % 64 = i.size := by omega
          -- the row that a growing append makes
          have grown : ∀ (cs ds : List Value) (cap : Nat) (need old : Nat) (w1 : World), w1 = w.drew.alloc (.cells (ds.toArray ++ Builtin.zeroCells z.cells (cap - need)) e) → ds.length = need * i.size → need ≤ cap → LR r cs ds →
              MR (more r (64 * M.next + i.size) (w.heap.size, cap * i.size)) (M.newZ i.size cs) w1 ∧ Stp r M w (more r (64 * M.next + i.size) (w.heap.size, cap * i.size)) (M.newZ i.size cs) w1 := by
            intro cs ds cap need old w1 hw1 hdl hle hr
            subst hw1
            refine new_sound (t := e) (cc := ds.toArray ++ Builtin.zeroCells z.cells (cap - need)) hM i.size (cap * i.size) (by omega) (fun _ => ?_) (hr.of_cells ⟨(Builtin.zeroCells z.cells (cap - need)).toList, by simp⟩) rfl rfl rfl rfl
            rw [Array.size_append, hsz]
            simp only [List.size_toArray, hdl]
            rw [← Nat.add_mul]
            congr 1
            omega
          split at h
          case h_3 => cases h
          · -- nil
            have := hs.eq (k := 1) rfl
            subst this
            generalize hcc : (Nat.ble 1 m && Nat.ble (m * i.bytes) 140737488355328 && Nat.ble m 9223372036854775807) = d at h
            cases d with
            | false => cases h
            | true =>
              cases h
              simp only [Bool.and_eq_true] at hcc
              have b1 := Nat.le_of_ble_eq_true hcc.1.1
              have b2 := Nat.le_of_ble_eq_true hcc.1.2
              have b3 := Nat.le_of_ble_eq_true hcc.2
              have hrun := run_append_nil (P := P) w t ty e i z hu hi hiz ax m cx ys hyl hyc b1 (by omega) (by omega)
              have hge := grownCap_ge w m 0 e
              obtain ⟨g1, g2⟩ := grown xs ys (grownCap w m 0 e) m 0 _ rfl hyl hge hrel
              exact ⟨_, _, _, hrun, .slice _ _ _ _ _ _ (more_self r _ _) hge (.inr (.inl ⟨by omega, by rw [tagof]; simp⟩)), g1, g2⟩
          · rename_i a k c
            obtain ⟨_, g, c', hg, hcap, ht, rfl⟩ := hs.of_slice
            cases hl : look M.bl a.block with
            | none => rw [hl] at h; cases h
            | some cs =>
              rw [hl] at h
              simp only at h
              generalize hcc : (Nat.ble (k * i.size) cs.length && (Nat.ble ((k + m) * i.bytes) 140737488355328 && (Nat.ble (k + m) 9223372036854775807 && Nat.beq a.off 0))) = d at h
              cases d with
              | false => cases h
              | true =>
                simp only [cond_true] at h
                simp only [Bool.and_eq_true] at hcc
                have b1 := Nat.le_of_ble_eq_true hcc.1
                have b2 := Nat.le_of_ble_eq_true hcc.2.1
                have b3 := Nat.le_of_ble_eq_true hcc.2.2.1
                have b4 : a.off = 0 := Nat.eq_of_beq_eq_true hcc.2.2.2
                rw [b4] at ht ⊢
                obtain ⟨g', te, cc, e1, hheap, htop, hcells⟩ := hM.blk a.block cs hl
                rw [hg] at e1; cases e1
                have hlen : ∀ j, j < cs.length → j < cc.size := fun j hj => by
                  obtain ⟨v', h4, _⟩ := hcells j cs[j] (List.getElem?_eq_getElem hj)
                  exact (Array.getElem?_eq_some_iff.1 h4).1
                have hcc' : cs.length ≤ cc.size := by
                  rcases Nat.eq_zero_or_pos cs.length with h0 | h0
                  · omega
                  · have := hlen (cs.length - 1) (by omega); omega
                obtain ⟨os, hol, hoc, horel⟩ := cells_at (o := 0) (n := k * i.size) hM hl hg (by omega)
                rw [List.drop_zero] at horel
                -- room in place: the model's run
                have inplace : k + m ≤ c' → k * i.size + ys.length ≤ cc.size → (Builtin.append_ #[t, t] ty #[.slice (some ⟨g.1, 0, none⟩) k c', .slice (some ax) m cx]).run P w =
                    .ok (.slice (some ⟨g.1, 0, none⟩) (k + m) c') (w.setRow g.1 (cc.toList.take (k * i.size) ++ ys ++ cc.toList.drop (k * i.size + ys.length)).toArray) := fun hroom hfit => by
                  have hf := run_firstCells_some (P := P) w i.size m ax m cx ys hyl hyc
                  have hst := run_storeCells_at P g.1 (k * i.size) te ys 0 cc w hheap (by simpa using hfit) hone
                  simp only [Nat.add_zero] at hst
                  simp [Builtin.append_, run_underlying hu, Go.sizeOf, typeInfo, hi, Builtin.lenOf, hroom, hf, Addr.add_lit, hst]
                have grows : c' < k + m → (Builtin.append_ #[t, t] ty #[.slice (some ⟨g.1, 0, none⟩) k c', .slice (some ax) m cx]).run P w =
                    .ok (.slice (some ⟨w.heap.size, 0, none⟩) (k + m) (grownCap w (k + m) c' e)) (w.drew.alloc (.cells (os.toArray ++ ys.toArray ++ Builtin.zeroCells z.cells (grownCap w (k + m) c' e - (k + m))) e)) := fun hlt =>
                  run_append_grow (P := P) w t ty e i z hu hi hiz ⟨g.1, 0, none⟩ k c' os hol hoc ax m cx ys hyl hyc hlt (by omega) (growslice_fits hlt b2)
                have hnew : ∀ cap, k + m ≤ cap → MR (more r (64 * M.next + i.size) (w.heap.size, cap * i.size)) (M.newZ i.size (cs.take (k * i.size) ++ xs)) (w.drew.alloc (.cells (os.toArray ++ ys.toArray ++ Builtin.zeroCells z.cells (cap - (k + m))) e)) ∧
                    Stp r M w (more r (64 * M.next + i.size) (w.heap.size, cap * i.size)) (M.newZ i.size (cs.take (k * i.size) ++ xs)) (w.drew.alloc (.cells (os.toArray ++ ys.toArray ++ Builtin.zeroCells z.cells (cap - (k + m))) e)) := fun cap hcap' => by
                  refine grown (cs.take (k * i.size) ++ xs) (os ++ ys) cap (k + m) 0 _ ?_ ?_ hcap' (horel.append hrel)
                  · congr 2; simp
                  · rw [List.length_append, hol, hyl, Nat.add_mul]
                cases hroom : Nat.ble (k + m) c with
                | true =>
                  rw [hroom] at h
                  simp only [cond_true] at h
                  have hr' := Nat.le_of_ble_eq_true hroom
                  generalize hd : (Nat.ble M.lo a.block && Nat.ble (k * i.size + xs.length) cs.length) = d at h
                  cases d with
                  | false => cases h
                  | true =>
                    cases h
                    simp only [Bool.and_eq_true] at hd
                    have d1 := Nat.le_of_ble_eq_true hd.1
                    have d2 := Nat.le_of_ble_eq_true hd.2
                    have hrun := inplace (by omega) (by rw [hyl, ← hxl]; omega)
                    have hpr : LR r (putRow cs (k * i.size) xs) ((putRow (cc.toList.take cs.length) (k * i.size) ys)) := by
                      refine putRow_rel ⟨by simp; omega, fun j x y hx hy => ?_⟩ hrel _
                      obtain ⟨v', h4, h5⟩ := hcells j x hx
                      rw [List.getElem?_take] at hy
                      split at hy
                      · have : cc[j]? = some y := by simpa using hy
                        rw [h4] at this; cases this; exact h5
                      · cases hy
                    have hrs := row_sound (w' := w.setRow g.1 (cc.toList.take (k * i.size) ++ ys ++ cc.toList.drop (k * i.size + ys.length)).toArray) (t := te) (ds := putRow cs (k * i.size) xs) hM d1 hl hg (fun h0 => by
                        have := htop h0
                        simp only [List.size_toArray, List.length_append, List.length_take, List.length_drop, Array.length_toList]
                        omega) (hpr.of_cells ⟨cc.toList.drop cs.length, by
                          simp only [putRow]
                          have q1 : List.take (k * i.size) (List.take cs.length cc.toList) = List.take (k * i.size) cc.toList := by rw [List.take_take]; congr 1; omega
                          rw [q1, List.append_assoc _ (List.drop _ _) _]
                          congr 1
                          rw [hyl, ← hxl, List.drop_take]
                          have q2 : List.drop cs.length cc.toList = List.drop (cs.length - (k * i.size + xs.length)) (List.drop (k * i.size + xs.length) cc.toList) := by rw [List.drop_drop]; congr 1; omega
                          rw [q2, List.take_append_drop]⟩)
                        (setRow_heap w g.1 cc _ te _ hheap) (fun k hk => setRow_other w g.1 k _ hk) (setRow_size ..) rfl rfl rfl
                    exact ⟨r, _, _, hrun, .slice _ _ _ _ _ _ hg hcap ht, hrs.1, hrs.2⟩
                | false =>
                  rw [hroom] at h
                  simp only [cond_false] at h
                  have hr' : c < k + m := by
                    rcases Nat.lt_or_ge c (k + m) with q | q
                    · exact q
                    · rw [Nat.ble_eq_true_of_le q] at hroom; cases hroom
                  cases htag : Nat.beq (a.block % 64) 0 with
                  | true =>
                    rw [htag] at h
                    simp only [cond_true] at h
                    cases h
                    have ht0 : a.block % 64 = 0 := Nat.eq_of_beq_eq_true htag
                    have hcc1 : c' = c := by rcases ht with q | q | q; exact q; omega; omega
                    have hge := grownCap_ge w (k + m) c' e
                    obtain ⟨g1, g2⟩ := hnew _ hge
                    exact ⟨_, _, _, grows (by omega), .slice _ _ _ _ _ _ (more_self r _ _) hge (.inr (.inl ⟨by omega, by rw [tagof]; simp⟩)), g1, g2⟩
                  | false =>
                    rw [htag] at h
                    simp only [cond_false] at h
                    generalize hd : (Nat.ble M.lo a.block && Nat.beq (a.block % 64) i.size) = d at h
                    cases d with
                    | false => cases h
                    | true =>
                      cases h
                      simp only [Bool.and_eq_true] at hd
                      have d1 := Nat.le_of_ble_eq_true hd.1
                      have d2 : a.block % 64 = i.size := Nat.eq_of_beq_eq_true hd.2
                      rcases Nat.lt_or_ge c' (k + m) with q | q
                      · have hge := grownCap_ge w (k + m) c' e
                        obtain ⟨g1, g2⟩ := hnew _ hge
                        have hsub : ∀ i' cs', look ((64 * M.next + i.size, cs.take (k * i.size) ++ xs) :: kill M.bl a.block) i' = some cs' → look (M.newZ i.size (cs.take (k * i.size) ++ xs)).bl i' = some cs' := fun i' cs' hh => by
                          rcases kill_sub _ _ _ _ i' cs' hh with q | ⟨q1, q2⟩
                          · exact q
                          · rw [look_cons, if_neg q1, look_kill, if_pos q2] at hh; cases hh
                        exact ⟨_, _, _, grows q, .slice _ _ _ _ _ _ (more_self r _ _) hge (.inr (.inl ⟨by omega, by rw [tagof]; simp⟩)), g1.sub hsub (glob_kill hM _ _ d1), g2.fewer hsub⟩
                      · have htt : 0 + c' * (a.block % 64) = g.2 := by
                          rcases ht with q' | q' | q'
                          · omega
                          · exact q'.2
                          · omega
                        have hsize : cc.size = g.2 := htop (by omega)
                        have hfit : k * i.size + ys.length ≤ cc.size := by
                          rw [hsize, ← htt, d2, hyl, ← Nat.add_mul, Nat.zero_add]
                          exact Nat.mul_le_mul_right _ q
                        have hrun := inplace q hfit
                        have hcel : ∀ (j : Nat) v, (cs.take (k * i.size) ++ xs)[j]? = some v → ∃ v', (cc.toList.take (k * i.size) ++ ys ++ cc.toList.drop (k * i.size + ys.length)).toArray[j]? = some v' ∧ VR r v v' := by
                          refine LR.of_cells (ys := os ++ ys) (horel.append hrel) ⟨cc.toList.drop (k * i.size + ys.length), ?_⟩
                          have : os = cc.toList.take (k * i.size) := by
                            refine List.ext_getElem? fun j => ?_
                            rcases Nat.lt_or_ge j (k * i.size) with hj | hj
                            · have hj2 : j < os.length := by omega
                              have := hoc j os[j] (List.getElem?_eq_getElem hj2)
                              rw [add_at, Nat.zero_add, cell_of_row w g.1 j cc te (0, 0) hheap] at this
                              rw [List.getElem?_eq_getElem hj2, List.getElem?_take_of_lt hj]
                              simpa using this.symm
                            · rw [List.getElem?_eq_none (by omega), List.getElem?_take_eq_none hj]
                          rw [this]
                        have hov := over_sound (w' := w.setRow g.1 (cc.toList.take (k * i.size) ++ ys ++ cc.toList.drop (k * i.size + ys.length)).toArray) (t := te) hM i.size d1 hl hg (by omega) (fun _ => by
                            rw [← hsize]
                            simp only [List.size_toArray, List.length_append, List.length_take, List.length_drop, Array.length_toList]
                            omega) hcel (setRow_heap w g.1 cc _ te _ hheap) (fun k hk => setRow_other w g.1 k _ hk) (setRow_size ..) rfl rfl rfl
                        exact ⟨_, _, _, hrun, .slice _ _ _ _ _ _ (more_self r _ _) q (.inr (.inl ⟨by omega, by rw [tagof, ← d2]; exact htt⟩)), hov.1, hov.2⟩
end Ev
end Go.Proofs.Ytjinpngojdefiaa
/-! ## H -/
namespace Go.Proofs.Ytjinpngojdefiaa
open Go.RowKit
namespace Ev

def evo (env : Env) : Option Operand → Option (Option Value)
  | none => some none
  | some x => match ev env x with
    | some v => some (some v)
    | none => none
theorem evo_sound {r : Nat → Option (Nat × Nat)} {env : Env} {a : Act} (h : ER r env a.tmps) {x : Option Operand} {v : Option Value} (hv : evo env x = some v) : OR r v (x.map a.eval) := by
  cases x with
  | none => cases hv; trivial
  | some x =>
    simp only [evo] at hv
    cases h1 : ev env x with
    | none => rw [h1] at hv; cases hv
    | some u => rw [h1] at hv; cases hv; exact ev_sound h h1
def evp (env : Env) : List (Nat × Operand) → Option (List (Nat × Value))
  | [] => some []
  | p :: ps => match ev env p.2 with
    | some v => match evp env ps with
      | some q => some ((p.1, v) :: q)
      | none => none
    | none => none
theorem evp_sound {r : Nat → Option (Nat × Nat)} {env : Env} {a : Act} (h : ER r env a.tmps) : ∀ {ps : List (Nat × Operand)} {q : List (Nat × Value)}, evp env ps = some q → PR r q (ps.map fun p => (p.1, a.eval p.2))
  | [], q, hq => by cases hq; trivial
  | p :: ps, q, hq => by
    simp only [evp] at hq
    cases h1 : ev env p.2 with
    | none => rw [h1] at hq; cases hq
    | some v =>
      rw [h1] at hq
      cases h2 : evp env ps with
      | none => rw [h2] at hq; cases hq
      | some q' => rw [h2] at hq; cases hq; exact ⟨rfl, ev_sound h h1, evp_sound h h2⟩

def lenA (P : Program) (t : TypeId) (x : Value) : Option Value := match x with
  | .slice (some _) n _ => match P.underlying t with
    | some (.slice _) => some (.int .i64 n)
    | _ => none
  | _ => none

/-- An operation whose values have addresses in them, or that meets memory. -/
def opC (P : Program) (env : Env) (M : Mem) (o : Oper) : Option (Value × Mem) := match o.op with
  | .move x => match ev env x with
    | some v => some (v, M)
    | none => none
  | .assign x => match ev env x with
    | some v => some (v, M)
    | none => none
  | .pick c x y => match ev env c with
    | some (.bool t) => match ev env (bif t then x else y) with
      | some v => some (v, M)
      | none => none
    | _ => none
  | .alloc t => allocA P M t
  | .box _ x => match ev env x with
    | some v => some (boxA M v)
    | none => none
  | .load t x => match ev env x with
    | some v => match loadA P M t v with
      | some u => some (u, M)
      | none => none
    | none => none
  | .store t x y => match ev env x with
    | some v => match ev env y with
      | some u => match storeA P M t v u with
        | some M' => some (Go.undef, M')
        | none => none
      | none => none
    | none => none
  | .fieldAddr s x f => match ev env x with
    | some v => match fieldAddrA P s v f with
      | some u => some (u, M)
      | none => none
    | none => none
  | .indexAddr t x ix => match ev env x with
    | some v => match ev env ix with
      | some i => match indexAddrA P t v i with
        | some u => some (u, M)
        | none => none
      | none => none
    | none => none
  | .field t x f => match ev env x with
    | some v => match fieldA P t v f with
      | some u => some (u, M)
      | none => none
    | none => none
  | .extract x i => match ev env x with
    | some v => match extractA v i with
      | some u => some (u, M)
      | none => none
    | none => none
  | .makeFunc fn first captured => bif isYield fn then none else match evs env first.toList with
    | some xs => match evs env captured.toList with
      | some us => some (.func fn xs.toArray us.toArray, M)
      | none => none
    | none => none
  | .slice t x lo hi mx => match ev env x with
    | some v => match evo env lo with
      | some l => match evo env hi with
        | some h => match evo env mx with
          | some m => match sliceA P t v l h m with
            | some u => some (u, M)
            | none => none
          | none => none
        | none => none
      | none => none
    | none => none
  | .makeSlice t l c => match ev env l with
    | some u => match ev env c with
      | some v => makeSliceA P M t u v
      | none => none
    | none => none
  | .buildSlice t len parts => match evp env parts.toList with
    | some q => buildSliceA P M t len q
    | none => none
  | .build t parts => match evp env parts.toList with
    | some q => match buildA P t q with
      | some u => some (u, M)
      | none => none
    | none => none
  | .convert s d x => match ev env x with
    | some v => match convertA P M s d v with
      | some u => some (u, M)
      | none => none
    | none => none
  | .nilCheck x => match ev env x with
    | some (.pointer (some a)) => some (.pointer (some a), M)
    | _ => none
  | .call c => match c.callee with
    | .builtin .append => match c.args.toList with
      | [s, x] => match c.argTypes.toList with
        | [t, u] => bif Nat.beq t u then match ev env s with
            | some sv => match ev env x with
              | some xv => appendA P M t sv xv
              | none => none
            | none => none
          else none
        | _ => none
      | _ => none
    | .builtin .len => match c.args.toList with
      | [x] => match c.argTypes.toList with
        | [t] => match ev env x with
          | some v => match lenA P t v with
            | some u => some (u, M)
            | none => none
          | none => none
        | _ => none
      | _ => none
    | _ => none
  | _ => none

theorem toArray_of {α : Type} {xs : Array α} {l : List α} (h : xs.toList = l) : xs = l.toArray := by rw [← h]

theorem opC_sound {P : Program} {env : Env} {M M' : Mem} {o : Oper} {v : Value} {r : Nat → Option (Nat × Nat)} {a : Act} {w : World} (h : opC P env M o = some (v, M')) (he : ER r env a.tmps) (hM : MR r M w) :
    ∃ r' v' w', Out P (execOp a.eval o) w r M v M' r' v' w' := by
  obtain ⟨dst, op, ty, pos, after, guard⟩ := o
  cases op with
  | move x =>
    simp only [opC] at h
    cases h1 : ev env x with
    | none => rw [h1] at h; cases h
    | some u => rw [h1] at h; cases h; exact ⟨r, _, w, .still hM rfl (ev_sound he h1)⟩
  | assign x =>
    simp only [opC] at h
    cases h1 : ev env x with
    | none => rw [h1] at h; cases h
    | some u => rw [h1] at h; cases h; exact ⟨r, _, w, .still hM rfl (ev_sound he h1)⟩
  | pick c x y =>
    simp only [opC] at h
    split at h
    case h_2 => cases h
    rename_i t h1
    have hb := (ev_sound he h1).bool
    split at h
    case h_2 => cases h
    rename_i u h2
    cases h
    refine ⟨r, _, w, .still hM (v' := a.eval (bif t then x else y)) ?_ (ev_sound he h2)⟩
    cases t <;> simp [execOp, hb, asBool]
  | alloc t =>
    obtain ⟨r', v', w', h1, h2, h3, h4⟩ := alloc_sound (P := P) hM t h
    exact ⟨r', v', w', .inl (run_value h1), h2, h3, h4⟩
  | box t x =>
    simp only [opC] at h
    cases h0 : ev env x with
    | none => rw [h0] at h; cases h
    | some u =>
      rw [h0] at h
      obtain ⟨r', v', w', h1, h2, h3, h4⟩ := box_sound (P := P) hM t (ev_sound he h0)
      cases h
      exact ⟨r', v', w', .inl (run_value h1), h2, h3, h4⟩
  | load t x =>
    simp only [opC] at h
    cases h0 : ev env x with
    | none => rw [h0] at h; cases h
    | some u =>
      rw [h0] at h
      simp only at h
      cases h1 : loadA P M t u with
      | none => rw [h1] at h; cases h
      | some q =>
        rw [h1] at h; cases h
        obtain ⟨v', h2, h3⟩ := load_sound hM t (ev_sound he h0) h1
        exact ⟨r, v', w, .still hM (run_value h2) h3⟩
  | store t x y =>
    simp only [opC] at h
    cases h0 : ev env x with
    | none => rw [h0] at h; cases h
    | some u =>
      rw [h0] at h
      simp only at h
      cases h1 : ev env y with
      | none => rw [h1] at h; cases h
      | some q =>
        rw [h1] at h
        simp only at h
        cases h2 : storeA P M t u q with
        | none => rw [h2] at h; cases h
        | some M2 =>
          rw [h2] at h; cases h
          obtain ⟨w', h3, h4, h5, _⟩ := storeAt_sound hM t (ev_sound he h0) (ev_sound he h1) h2
          exact ⟨r, Go.undef, w', .inr ⟨run_unit h3, rfl⟩, .undef r, h4, h5⟩
  | fieldAddr s x f =>
    simp only [opC] at h
    cases h0 : ev env x with
    | none => rw [h0] at h; cases h
    | some u =>
      rw [h0] at h
      simp only at h
      cases h1 : fieldAddrA P s u f with
      | none => rw [h1] at h; cases h
      | some q =>
        rw [h1] at h; cases h
        obtain ⟨v', h2, h3⟩ := fieldAddr_sound s f (ev_sound he h0) h1
        exact ⟨r, v', w, .still hM (run_value (h2 w)) h3⟩
  | indexAddr t x ix =>
    simp only [opC] at h
    cases h0 : ev env x with
    | none => rw [h0] at h; cases h
    | some u =>
      rw [h0] at h
      simp only at h
      cases h1 : ev env ix with
      | none => rw [h1] at h; cases h
      | some i =>
        rw [h1] at h
        simp only at h
        cases h2 : indexAddrA P t u i with
        | none => rw [h2] at h; cases h
        | some q =>
          rw [h2] at h; cases h
          obtain ⟨v', h3, h4⟩ := indexAddr_sound t (ev_sound he h0) (ev_sound he h1) h2
          exact ⟨r, v', w, .still hM (run_value (h3 w)) h4⟩
  | field t x f =>
    simp only [opC] at h
    cases h0 : ev env x with
    | none => rw [h0] at h; cases h
    | some u =>
      rw [h0] at h
      simp only at h
      cases h1 : fieldA P t u f with
      | none => rw [h1] at h; cases h
      | some q =>
        rw [h1] at h; cases h
        obtain ⟨v', h2, h3⟩ := field_sound t f (ev_sound he h0) h1
        exact ⟨r, v', w, .still hM (run_value (h2 w)) h3⟩
  | extract x i =>
    simp only [opC] at h
    cases h0 : ev env x with
    | none => rw [h0] at h; cases h
    | some u =>
      rw [h0] at h
      simp only at h
      cases h1 : extractA u i with
      | none => rw [h1] at h; cases h
      | some q =>
        rw [h1] at h; cases h
        obtain ⟨v', h2, h3⟩ := extract_sound (P := P) i (ev_sound he h0) h1
        exact ⟨r, v', w, .still hM (run_value (h2 w)) h3⟩
  | makeFunc fn first captured =>
    simp only [opC] at h
    cases hy : isYield fn with
    | true => rw [hy] at h; cases h
    | false =>
    rw [hy] at h
    simp only [cond_false] at h
    cases h0 : evs env first.toList with
    | none => rw [h0] at h; cases h
    | some xs =>
      rw [h0] at h
      simp only at h
      cases h1 : evs env captured.toList with
      | none => rw [h1] at h; cases h
      | some us =>
        rw [h1] at h; cases h
        have e1 := evs_sound he h0
        have e2 := evs_sound he h1
        refine ⟨r, .func fn (first.map a.eval) (captured.map a.eval), w, .still hM (by simp [execOp, Instr.makeFunc]) ?_⟩
        have := VR.func' fn hy e1 e2
        have q1 : first.map a.eval = (first.toList.map a.eval).toArray := by rw [← Array.toList_map]
        have q2 : captured.map a.eval = (captured.toList.map a.eval).toArray := by rw [← Array.toList_map]
        rw [q1, q2]
        exact this
  | slice t x lo hi mx =>
    simp only [opC] at h
    cases h0 : ev env x with
    | none => rw [h0] at h; cases h
    | some u =>
      rw [h0] at h
      simp only at h
      cases h1 : evo env lo with
      | none => rw [h1] at h; cases h
      | some l =>
        rw [h1] at h
        simp only at h
        cases h2 : evo env hi with
        | none => rw [h2] at h; cases h
        | some hh =>
          rw [h2] at h
          simp only at h
          cases h3 : evo env mx with
          | none => rw [h3] at h; cases h
          | some m =>
            rw [h3] at h
            simp only at h
            cases h4 : sliceA P t u l hh m with
            | none => rw [h4] at h; cases h
            | some q =>
              rw [h4] at h; cases h
              obtain ⟨v', h5, h6⟩ := slice_sound t (ev_sound he h0) (evo_sound he h1) (evo_sound he h2) (evo_sound he h3) h4
              exact ⟨r, v', w, .still hM (run_value (h5 w)) h6⟩
  | makeSlice t l c =>
    simp only [opC] at h
    cases h0 : ev env l with
    | none => rw [h0] at h; cases h
    | some u =>
      rw [h0] at h
      simp only at h
      cases h1 : ev env c with
      | none => rw [h1] at h; cases h
      | some q =>
        rw [h1] at h
        obtain ⟨r', v', w', h2, h3, h4, h5⟩ := makeSlice_sound (P := P) hM t (ev_sound he h0) (ev_sound he h1) h
        exact ⟨r', v', w', .inl (run_value h2), h3, h4, h5⟩
  | buildSlice t len parts =>
    simp only [opC] at h
    cases h0 : evp env parts.toList with
    | none => rw [h0] at h; cases h
    | some q =>
      rw [h0] at h
      obtain ⟨r', v', w', h2, h3, h4, h5⟩ := buildSlice_sound (P := P) (ps' := parts.map fun p => (p.1, a.eval p.2)) hM t len (by simpa using evp_sound he h0) h
      exact ⟨r', v', w', .inl (run_value h2), h3, h4, h5⟩
  | build t parts =>
    simp only [opC] at h
    cases h0 : evp env parts.toList with
    | none => rw [h0] at h; cases h
    | some q =>
      rw [h0] at h
      simp only at h
      cases h1 : buildA P t q with
      | none => rw [h1] at h; cases h
      | some u =>
        rw [h1] at h; cases h
        obtain ⟨v', h2, h3⟩ := build_sound (ps' := parts.map fun p => (p.1, a.eval p.2)) t (by simpa using evp_sound he h0) h1
        exact ⟨r, v', w, .still hM (run_value (h2 w)) h3⟩
  | convert s d x =>
    simp only [opC] at h
    cases h0 : ev env x with
    | none => rw [h0] at h; cases h
    | some u =>
      rw [h0] at h
      simp only at h
      cases h1 : convertA P M s d u with
      | none => rw [h1] at h; cases h
      | some q =>
        rw [h1] at h; cases h
        obtain ⟨h2, h3⟩ := convert_sound hM s d (ev_sound he h0) h1
        exact ⟨r, _, w, .still hM (run_value h2) h3⟩
  | nilCheck x =>
    simp only [opC] at h
    split at h
    case h_2 => cases h
    rename_i ad h0
    cases h
    obtain ⟨hs, g, hg, hv⟩ := (ev_sound he h0).of_ptr
    have hh := ev_sound he h0
    exact ⟨r, a.eval x, w, .still hM (by simp [execOp, hv]) hh⟩
  | call c =>
    obtain ⟨callee, args, argTypes⟩ := c
    simp only [opC] at h
    split at h
    case h_3 => cases h
    · split at h
      case h_2 => cases h
      rename_i s x hargs
      split at h
      case h_2 => cases h
      rename_i t u hty
      cases hb : Nat.beq t u with
      | false => rw [hb] at h; cases h
      | true =>
        rw [hb] at h
        simp only [cond_true] at h
        have := Nat.eq_of_beq_eq_true hb
        subst this
        cases h0 : ev env s with
        | none => rw [h0] at h; cases h
        | some sv =>
          rw [h0] at h
          simp only at h
          cases h1 : ev env x with
          | none => rw [h1] at h; cases h
          | some xv =>
            rw [h1] at h
            obtain ⟨r', v', w', h2, h3, h4, h5⟩ := append_sound (P := P) hM t ty (ev_sound he h0) (ev_sound he h1) h
            refine ⟨r', v', w', .inl ?_, h3, h4, h5⟩
            have e1 := toArray_of hargs
            have e2 := toArray_of hty
            subst e1; subst e2
            simp [execOp, resolve, invoke, builtin, h2]
    · split at h
      case h_2 => cases h
      rename_i x hargs
      split at h
      case h_2 => cases h
      rename_i t hty
      cases h0 : ev env x with
      | none => rw [h0] at h; cases h
      | some u =>
        rw [h0] at h
        simp only at h
        cases h1 : lenA P t u with
        | none => rw [h1] at h; cases h
        | some q =>
          rw [h1] at h; cases h
          unfold lenA at h1
          split at h1
          case h_2 => cases h1
          rename_i ad n cap
          split at h1
          case h_2 => cases h1
          rename_i e hu
          cases h1
          obtain ⟨hs, g, c', hg, hcap, ht, hv⟩ := (ev_sound he h0).of_slice
          have e1 := toArray_of hargs
          have e2 := toArray_of hty
          subst e1; subst e2
          exact ⟨r, .int .i64 n, w, .still hM (by simp [execOp, resolve, invoke, builtin, Builtin.len_, underlying, hu, hv, goInt]) (.of_int r _ _)⟩
  | _ => simp only [opC] at h; cases h

/-! ### What only reckons. -/
def eva (env : Env) (x : Operand) : Value := match ev env x with
  | some v => v
  | none => Go.undef
def afAll (env : Env) (xs : List Operand) : Bool := xs.all fun x => match ev env x with
  | some v => af 4 v
  | none => false
def isSelect : Op → Bool
  | .select _ _ => true
  | _ => false
theorem eva_eq {r : Nat → Option (Nat × Nat)} {env : Env} {a : Act} (he : ER r env a.tmps) {xs : List Operand} (h : afAll env xs = true) : ∀ x ∈ xs, a.eval x = eva env x := fun x hx => by
  have := List.all_eq_true.1 h x hx
  cases h1 : ev env x with
  | none => rw [h1] at this; cases this
  | some v =>
    rw [h1] at this
    rw [eva, h1]
    exact (ev_sound he h1).eq this
def nextP (P : Program) (env : Env) (o : Oper) : Option Next := bif isSelect o.op then none else bif afAll env o.op.operands.toList then pureRun P (execOp (eva env) o) else none
theorem nextP_sound {P : Program} {env : Env} {o : Oper} {n : Next} {r : Nat → Option (Nat × Nat)} {a : Act} (w : World) (h : nextP P env o = some n) (he : ER r env a.tmps) : (execOp a.eval o).run P w = .ok n w := by
  unfold nextP at h
  cases hs : isSelect o.op with
  | true => rw [hs] at h; cases h
  | false =>
    rw [hs] at h
    simp only [cond_false] at h
    cases ha : afAll env o.op.operands.toList with
    | false => rw [ha] at h; cases h
    | true =>
      rw [ha] at h
      simp only [cond_true] at h
      have hc : execOp a.eval o = execOp (eva env) o := execOp_congr o (fun cs b e => by rw [e] at hs; cases hs) fun x hx => eva_eq he ha x (by simpa using hx)
      rw [hc]
      exact pureRun_sound h w

/-- Any single operation that makes no call of a Go function. -/
def opS (P : Program) (env : Env) (M : Mem) (o : Oper) : Option (Value × Mem) := match opC P env M o with
  | some q => some q
  | none => match nextP P env o with
    | some (.value v) => bif af 4 v then some (v, M) else none
    | _ => none
theorem opS_sound {P : Program} {env : Env} {M M' : Mem} {o : Oper} {v : Value} {r : Nat → Option (Nat × Nat)} {a : Act} {w : World} (h : opS P env M o = some (v, M')) (he : ER r env a.tmps) (hM : MR r M w) :
    ∃ r' v' w', Out P (execOp a.eval o) w r M v M' r' v' w' := by
  unfold opS at h
  cases h1 : opC P env M o with
  | some q => rw [h1] at h; cases h; exact opC_sound h1 he hM
  | none =>
    rw [h1] at h
    simp only at h
    split at h
    case h_2 => cases h
    rename_i u h2
    cases hf : af 4 u with
    | false => rw [hf] at h; cases h
    | true =>
      rw [hf] at h; cases h
      exact ⟨r, _, w, .still hM (nextP_sound w h2 he) (.same 4 _ hf)⟩

/-- Which function a call comes to, with which arguments. -/
def calleeA (P : Program) (env : Env) (o : Oper) : Option (FuncId × Func × Code × List Value) := match o.op with
  | .call c => match c.callee with
    | .value fo => match ev env fo with
      | some (.func (.func f) first captured) => match evs env c.args.toList with
        | some xs => match P.funcs[f]? with
          | some fn => match fn.body with
            | some b => some (f, fn, b, first.toList ++ xs ++ captured.toList)
            | none => none
          | none => none
        | none => none
      | _ => none
    | _ => none
  | _ => none
def noRoutines (P : Program) : Prop := ∀ (f : FuncId) fn, P.funcs[f]? = some fn → (fn.name == "runtime.NumGoroutine") = false
theorem callee_sound {P : Program} (hN : noRoutines P) {env : Env} {o : Oper} {f : FuncId} {fn : Func} {b : Code} {xs : List Value} {r : Nat → Option (Nat × Nat)} {a : Act} (w : World) (h : calleeA P env o = some (f, fn, b, xs)) (he : ER r env a.tmps) :
    ∃ ys : List Value, (execOp a.eval o).run P w = .ok (.enter f ys.toArray) w ∧ LR r xs ys ∧ P.funcs[f]? = some fn ∧ fn.body = some b := by
  obtain ⟨dst, op, ty, pos, after, guard⟩ := o
  unfold calleeA at h
  split at h
  case h_2 => cases h
  rename_i c hop
  simp only at hop
  subst hop
  obtain ⟨callee, args, argTypes⟩ := c
  simp only at h
  split at h
  case h_2 => cases h
  rename_i fo
  split at h
  case h_2 => cases h
  rename_i f' first captured h0
  split at h
  case h_2 => cases h
  rename_i as h1
  split at h
  case h_2 => cases h
  rename_i fn' h2
  split at h
  case h_2 => cases h
  rename_i b' h3
  cases h
  obtain ⟨ys, vs, hv, e1, e2⟩ := (ev_sound he h0).of_func rfl
  have e3 := evs_sound he h1
  refine ⟨ys.toList ++ args.toList.map a.eval ++ vs.toList, ?_, (e1.append e3).append e2, h2, h3⟩
  have hname : ¬ fn.name = "runtime.NumGoroutine" := by simpa using hN f fn h2
  simp [execOp, resolve, Deferred.ofValue, hv, invoke, callFunc, h2, hname, h3]
end Ev
end Go.Proofs.Ytjinpngojdefiaa
