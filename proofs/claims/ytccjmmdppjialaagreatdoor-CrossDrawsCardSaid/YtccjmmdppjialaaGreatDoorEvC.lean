/- The evaluator, C: the single operations that make no call, and that each does in the model what it does here. -/
import Derived.Test.YtccjmmdppjialaaGreatDoorEvB
namespace Go.Proofs.YtccjmmdppjialaaGreatDoor
open Go.RowKit
namespace Ev

/-- A value brought to its final form, for what stands behind it: the same value. -/
def forceN {α : Type} (n : Nat) (f : Nat → α) : α := match n with
  | 0 => f 0
  | k + 1 => f (k + 1)
theorem forceN_eq {α : Type} (n : Nat) (f : Nat → α) : forceN n f = f n := by cases n <;> rfl
def forceV {α : Type} (v : Value) (f : Value → α) : α := match v with
  | .int k n => match n with
    | .ofNat m => forceN m fun m => f (.int k (.ofNat m))
    | .negSucc m => forceN m fun m => f (.int k (.negSucc m))
  | .bool b => match b with
    | true => f (.bool true)
    | false => f (.bool false)
  | .pointer (some a) => forceN a.block fun b => forceN a.off fun o => match a.spot with
    | none => f (.pointer (some ⟨b, o, none⟩))
    | some s => f (.pointer (some ⟨b, o, some s⟩))
  | .slice (some a) n c => forceN a.block fun b => forceN a.off fun o => forceN n fun n => forceN c fun c => match a.spot with
    | none => f (.slice (some ⟨b, o, none⟩) n c)
    | some s => f (.slice (some ⟨b, o, some s⟩) n c)
  | v => f v
theorem forceV_eq {α : Type} (v : Value) (f : Value → α) : forceV v f = f v := by
  cases v with
  | int k n => cases n <;> simp [forceV, forceN_eq]
  | bool b => cases b <;> rfl
  | pointer a => cases a with
    | none => rfl
    | some a => obtain ⟨b, o, s⟩ := a; cases s <;> simp [forceV, forceN_eq]
  | slice a n c => cases a with
    | none => rfl
    | some a => obtain ⟨b, o, s⟩ := a; cases s <;> simp [forceV, forceN_eq]
  | _ => rfl

/-- The tree, built whole before what stands behind it goes on. -/
def setK {α : Type} : List Bool → Value → Tr → (Tr → α) → α
  | [], v, t, k => match t with
    | .nd _ l r => k (.nd v l r)
    | .e => k (.nd v .e .e)
  | b :: p, v, t, k => match t with
    | .nd u l r => bif b then setK p v r fun r' => k (.nd u l r') else setK p v l fun l' => k (.nd u l' r)
    | .e => bif b then setK p v .e fun r' => k (.nd Go.undef .e r') else setK p v .e fun l' => k (.nd Go.undef l' .e)
theorem setK_eq {α : Type} : ∀ (p : List Bool) (v : Value) (t : Tr) (k : Tr → α), setK p v t k = k (setT p v t)
  | [], v, t, k => by cases t <;> rfl
  | b :: p, v, t, k => by
    cases t <;> cases b <;> simp [setK, setT, setK_eq p]
def Env.setK {α : Type} (env : Env) (i : Nat) (v : Value) (k : Env → α) : α := match env with
  | ⟨n, t, gs, ds, rd⟩ => bif Nat.blt i n then Ev.setK (pathOf i) v t fun t' => k ⟨n, t', gs, ds, rd⟩ else k ⟨n, t, gs, ds, rd⟩
theorem Env.setK_eq {α : Type} (env : Env) (i : Nat) (v : Value) (k : Env → α) : env.setK i v k = k (env.set i v) := by
  obtain ⟨n, t, gs, ds, rd⟩ := env
  simp only [Env.setK, Env.set]
  cases Nat.blt i n with
  | true => simp only [cond_true, Ev.setK_eq]
  | false => rfl
def forceL {α β : Type} (l : List β) (k : List β → α) : α := match l with
  | [] => k []
  | x :: xs => k (x :: xs)
theorem forceL_eq {α β : Type} (l : List β) (k : List β → α) : forceL l k = k l := by cases l <;> rfl
/-- Memory brought to its final form, as far as its newest block. -/
def forceM {α : Type} (M : Mem) (k : Mem → α) : α := match M with
  | ⟨next, lo, bl, gl, ob⟩ => forceN next fun next => forceN lo fun lo => forceL bl fun bl => forceL gl fun gl => forceL ob fun ob => k ⟨next, lo, bl, gl, ob⟩
theorem forceM_eq {α : Type} (M : Mem) (k : Mem → α) : forceM M k = k M := by
  obtain ⟨next, lo, bl, gl, ob⟩ := M
  simp [forceM, forceN_eq, forceL_eq]
/-- Octets, each as the octet of a number. -/
def forceB {α : Type} : List UInt8 → (List UInt8 → α) → α
  | [], k => k []
  | b :: l, k => forceN b.toNat fun n => forceB l fun l => k (UInt8.ofNat n :: l)
theorem forceB_eq {α : Type} : ∀ (l : List UInt8) (k : List UInt8 → α), forceB l k = k l
  | [], k => rfl
  | b :: l, k => by simp [forceB, forceN_eq, forceB_eq l]
def forceS {α : Type} (s : ByteArray) (k : ByteArray → α) : α := forceB s.data.toList fun l => k ⟨⟨l⟩⟩
theorem forceS_eq {α : Type} (s : ByteArray) (k : ByteArray → α) : forceS s k = k s := by
  unfold forceS
  rw [forceB_eq]
/-- A list of values, one by one by what brings each to its final form. -/
def forceVs {α : Type} (f : Value → (Value → α) → α) : List Value → (List Value → α) → α
  | [], k => k []
  | v :: l, k => f v fun v => forceVs f l fun l => k (v :: l)
theorem forceVs_eq {α : Type} {f : Value → (Value → α) → α} (hf : ∀ v k, f v k = k v) : ∀ (l : List Value) (k : List Value → α), forceVs f l k = k l
  | [], k => rfl
  | v :: l, k => by simp [forceVs, hf, forceVs_eq hf l]
/-- A value brought to its final form, parts and all. -/
def forceD {α : Type} : Nat → Value → (Value → α) → α
  | 0, v, k => k v
  | n + 1, v, k => match v with
    | .int i m => (match m with
      | .ofNat m => forceN m fun m => k (.int i (.ofNat m))
      | .negSucc m => forceN m fun m => k (.int i (.negSucc m)))
    | .bool b => (match b with
      | true => k (.bool true)
      | false => k (.bool false))
    | .string s => forceS s fun s => k (.string s)
    | .pointer (some a) => forceN a.block fun b => forceN a.off fun o => (match a.spot with
      | none => k (.pointer (some ⟨b, o, none⟩))
      | some s => k (.pointer (some ⟨b, o, some s⟩)))
    | .slice (some a) l c => forceN a.block fun b => forceN a.off fun o => forceN l fun l => forceN c fun c => (match a.spot with
      | none => k (.slice (some ⟨b, o, none⟩) l c)
      | some s => k (.slice (some ⟨b, o, some s⟩) l c))
    | .agg xs => forceVs (forceD n) xs.toList fun l => k (.agg ⟨l⟩)
    | .tuple xs => forceVs (forceD n) xs.toList fun l => k (.tuple ⟨l⟩)
    | .func fn xs ys => forceVs (forceD n) xs.toList fun l => forceVs (forceD n) ys.toList fun l' => k (.func fn ⟨l⟩ ⟨l'⟩)
    | .iface t u => forceN t fun t => forceD n u fun u => k (.iface t u)
    | v => k v
theorem forceD_eq {α : Type} : ∀ (n : Nat) (v : Value) (k : Value → α), forceD n v k = k v
  | 0, v, k => rfl
  | n + 1, v, k => by
    have ih : ∀ v k, forceD (α := α) n v k = k v := forceD_eq n
    cases v with
    | int i m => cases m <;> simp [forceD, forceN_eq]
    | bool b => cases b <;> rfl
    | string s => simp [forceD, forceS_eq]
    | pointer a => cases a with
      | none => rfl
      | some a => obtain ⟨b, o, s⟩ := a; cases s <;> simp [forceD, forceN_eq]
    | slice a l c => cases a with
      | none => rfl
      | some a => obtain ⟨b, o, s⟩ := a; cases s <;> simp [forceD, forceN_eq]
    | agg xs => simp [forceD, forceVs_eq ih]
    | tuple xs => simp [forceD, forceVs_eq ih]
    | func fn xs ys => simp [forceD, forceVs_eq ih]
    | iface t u => simp [forceD, forceN_eq, ih]
    | _ => rfl
def fillK {α : Type} : Nat → List Value → Tr → (Tr → α) → α
  | _, [], t, k => k t
  | i, x :: xs, t, k => setK (pathOf i) x t fun t' => fillK (i + 1) xs t' k
theorem fillK_eq {α : Type} : ∀ (xs : List Value) (i : Nat) (t : Tr) (k : Tr → α), fillK i xs t k = k (fillT i xs t)
  | [], i, t, k => rfl
  | x :: xs, i, t, k => by simp [fillK, fillT, setK_eq, fillK_eq xs]
/-- The environment in which a function begins, built whole. -/
def mkEnvK {α : Type} (gs : List Nat) (n : Nat) (xs : List Value) (k : Env → α) : α := fillK 0 xs .e fun t => forceN (xs.length + (n - xs.length)) fun n => k ⟨n, t, gs, [], false⟩
theorem mkEnvK_eq {α : Type} (gs : List Nat) (n : Nat) (xs : List Value) (k : Env → α) : mkEnvK gs n xs k = k (mkEnv gs n xs) := by
  simp [mkEnvK, mkEnv, fillK_eq, forceN_eq]

def ev (env : Env) : Operand → Option Value
  | .tmp t => some (env.get t)
  | .const v => bif af 4 v then some v else none
  | .func f => some (.func (.func f) #[] #[])
  | .global g => bif env.gs.any (Nat.beq g) then some (.pointer (some ⟨64 * g, 0, none⟩)) else none

theorem ev_sound {r : Nat → Option (Nat × Nat)} {env : Env} {a : Act} (h : ER r env a.tmps) {x : Operand} {v : Value} (hv : ev env x = some v) : VR r v (a.eval x) := by
  cases x with
  | tmp t =>
    simp only [ev, Option.some.injEq] at hv
    subst hv
    exact h.2 t
  | const v' =>
    simp only [ev] at hv
    cases h4 : af 4 v' with
    | false => rw [h4] at hv; cases hv
    | true => rw [h4] at hv; cases hv; exact .same 4 _ h4
  | func f => cases hv; exact .same 2 _ rfl
  | global g =>
    simp only [ev] at hv
    cases hb : env.gs.any (Nat.beq g) with
    | false => rw [hb] at hv; cases hv
    | true =>
      rw [hb] at hv; cases hv
      obtain ⟨g', h1, h2⟩ := List.any_eq_true.1 hb
      have := Nat.eq_of_beq_eq_true h2
      subst this
      obtain ⟨s, hs⟩ := h.3 g h1
      exact .ptr _ _ _ hs

/-- What an operation's run is to be: its value, or nothing where it is a statement. -/
structure Out (P : Program) (s : Sem Next) (w : World) (r : Nat → Option (Nat × Nat)) (M : Mem) (v : Value) (M' : Mem) (r' : Nat → Option (Nat × Nat)) (v' : Value) (w' : World) : Prop where
  run : s.run P w = .ok (.value v') w' ∨ (s.run P w = .ok .skip w' ∧ v' = Go.undef)
  val : VR r' v v'
  mem : MR r' M' w'
  stp : Stp r M w r' M' w'

theorem Out.still {P : Program} {s : Sem Next} {w : World} {r : Nat → Option (Nat × Nat)} {M : Mem} {v v' : Value} (hM : MR r M w) (h : s.run P w = .ok (.value v') w) (hv : VR r v v') : Out P s w r M v M r v' w :=
  ⟨.inl h, hv, hM, .refl r M w⟩

theorem run_value {P : Program} {s : Sem Value} {w w' : World} {v : Value} (h : s.run P w = .ok v w') : (do pure (Next.value (← s)) : Sem Next).run P w = .ok (.value v) w' := by
  simp [h]
theorem run_unit {P : Program} {s : Sem Unit} {w w' : World} (h : s.run P w = .ok () w') : (do s; pure Next.skip : Sem Next).run P w = .ok .skip w' := by
  simp [h]

/-! ### Memory made. -/
def cellsOf' (v : Value) : List Value := match v with
  | .agg xs => xs.toList
  | v => [v]
theorem cellsOf_rel {r : Nat → Option (Nat × Nat)} {v v' : Value} (h : VR r v v') : LR r (cellsOf' v) v'.cells.toList := by
  have one : ∀ {u u' : Value}, VR r u u' → LR r [u] [u'] := fun h => .cons h (.nil r)
  cases v with
  | agg xs => obtain ⟨ys, rfl, hl⟩ := h.of_agg; exact hl
  | _ => cases h <;> first | exact one (.same _ _ (by assumption)) | (refine one ?_; constructor <;> assumption)
theorem new_var_sound {P : Program} {r : Nat → Option (Nat × Nat)} {M : Mem} {w : World} (hM : MR r M w) {cs : List Value} {cc : Array Value} (t : TypeId) (h : LR r cs cc.toList) :
    ∃ r' w', (newRow t cc).run P w = .ok ⟨w.heap.size, 0, none⟩ w' ∧ r' (64 * M.next) = some (w.heap.size, 0) ∧ MR r' (M.new cs) w' ∧ Stp r M w r' (M.new cs) w' := by
  obtain ⟨h1, h2⟩ := new_sound (w' := w.alloc (.cells cc t)) (t := t) (cc := cc) hM (cs := cs) 0 0 (by omega) (fun h => absurd h (by omega)) (fun j v hv => by
    obtain ⟨y, hy, hr⟩ := h.get hv
    exact ⟨y, by simpa using hy, hr⟩) rfl rfl rfl rfl
  exact ⟨_, w.alloc (.cells cc t), by simp [newRow], more_self r _ _, h1, h2⟩

def zeroOf (P : Program) (t : TypeId) : Option Value := match P.info? t with
  | some i => match i.zero with
    | some z => bif af 4 z then some z else none
    | none => none
  | none => none
theorem zeroOf_run {P : Program} {t : TypeId} {z : Value} (h : zeroOf P t = some z) : af 4 z = true ∧ ∀ w, (zeroValue t).run P w = .ok z w := by
  unfold zeroOf at h
  cases hi : P.info? t with
  | none => rw [hi] at h; cases h
  | some i =>
    rw [hi] at h
    simp only at h
    cases hz : i.zero with
    | none => rw [hz] at h; cases h
    | some u =>
      rw [hz] at h
      simp only at h
      cases ha : af 4 u with
      | false => rw [ha] at h; cases h
      | true => rw [ha] at h; cases h; exact ⟨ha, fun w => by simp [zeroValue, typeInfo, hi, hz]⟩

def allocA (P : Program) (M : Mem) (t : TypeId) : Option (Value × Mem) := match zeroOf P t with
  | some z => some (.pointer (some ⟨64 * M.next, 0, none⟩), M.new (cellsOf' z))
  | none => none
theorem alloc_sound {P : Program} {r : Nat → Option (Nat × Nat)} {M M' : Mem} {w : World} {v : Value} (hM : MR r M w) (t : TypeId) (h : allocA P M t = some (v, M')) :
    ∃ r' v' w', (Instr.alloc t true (.tuple #[])).run P w = .ok v' w' ∧ VR r' v v' ∧ MR r' M' w' ∧ Stp r M w r' M' w' := by
  unfold allocA at h
  cases hz : zeroOf P t with
  | none => rw [hz] at h; cases h
  | some z =>
    rw [hz] at h
    cases h
    obtain ⟨ha, hr⟩ := zeroOf_run hz
    obtain ⟨r', w', h1, h2, h3, h4⟩ := new_var_sound (P := P) hM t (cellsOf_rel (.same (r := r) 4 z ha))
    exact ⟨r', _, w', by simp [Instr.alloc, newVar, hr, h1], .ptr _ _ _ h2, h3, h4⟩

def boxA (M : Mem) (x : Value) : Value × Mem := (.pointer (some ⟨64 * M.next, 0, none⟩), M.new (cellsOf' x))
theorem box_sound {P : Program} {r : Nat → Option (Nat × Nat)} {M : Mem} {w : World} (hM : MR r M w) (t : TypeId) {x x' : Value} (hx : VR r x x') :
    ∃ r' v' w', (Instr.box t x').run P w = .ok v' w' ∧ VR r' (boxA M x).1 v' ∧ MR r' (boxA M x).2 w' ∧ Stp r M w r' (boxA M x).2 w' := by
  obtain ⟨r', w', h1, h2, h3, h4⟩ := new_var_sound (P := P) hM t (cellsOf_rel hx)
  exact ⟨r', _, w', by simp [Instr.box, newVar, h1], .ptr _ _ _ h2, h3, h4⟩

/-! ### Memory read and written. -/
def aggT (P : Program) (t : TypeId) : Option Bool := match P.underlying t with
  | some (.struct _) => some true
  | some (.array _ _) => some true
  | some _ => some false
  | none => none
theorem aggT_run {P : Program} {t : TypeId} {b : Bool} (h : aggT P t = some b) (w : World) : (isAgg t).run P w = .ok b w := by
  unfold aggT at h
  unfold isAgg
  cases hu : P.underlying t with
  | none => rw [hu] at h; cases h
  | some d => rw [hu] at h; cases d <;> simp_all [underlying]
def sizeA (P : Program) (t : TypeId) : Option Nat := match P.info? t with
  | some i => some i.size
  | none => none
theorem sizeA_run {P : Program} {t : TypeId} {n : Nat} (h : sizeA P t = some n) (w : World) : (sizeOf t).run P w = .ok n w := by
  unfold sizeA at h
  cases hi : P.info? t with
  | none => rw [hi] at h; cases h
  | some i => rw [hi] at h; cases h; simp [Go.sizeOf, typeInfo, hi]

def loadA (P : Program) (M : Mem) (t : TypeId) (x : Value) : Option Value := match x with
  | .pointer (some a) => match look M.bl a.block with
    | some cs => match aggT P t with
      | some true => match sizeA P t with
        | some n => bif Nat.ble (a.off + n) cs.length then some (.agg ((cs.drop a.off).take n).toArray) else none
        | none => none
      | some false => cs[a.off]?
      | none => none
    | none => none
  | _ => none
theorem loadVar_sound {P : Program} {r : Nat → Option (Nat × Nat)} {M : Mem} {w : World} {v x x' : Value} (hM : MR r M w) (t : TypeId) (hx : VR r x x') (h : loadA P M t x = some v) :
    ∃ a v', x' = .pointer (some a) ∧ (loadVar t a).run P w = .ok v' w ∧ VR r v v' := by
  unfold loadA at h
  split at h
  case h_2 => cases h
  rename_i a
  obtain ⟨hs, g, hg, rfl⟩ := hx.of_ptr
  cases hl : look M.bl a.block with
  | none => rw [hl] at h; cases h
  | some cs =>
    rw [hl] at h
    cases hb : aggT P t with
    | none => rw [hb] at h; cases h
    | some b =>
      rw [hb] at h
      cases b with
      | false =>
        obtain ⟨v', h1, h2⟩ := cell_sound hM hl hg h
        exact ⟨_, v', rfl, by simp [loadVar, aggT_run hb, h1], h2⟩
      | true =>
        cases hn : sizeA P t with
        | none => rw [hn] at h; cases h
        | some n =>
          rw [hn] at h
          simp only at h
          cases hle : Nat.ble (a.off + n) cs.length with
          | false => rw [hle] at h; cases h
          | true =>
            rw [hle] at h
            cases h
            obtain ⟨ys, _, h2, h3⟩ := cells_sound hM hl hg (Nat.le_of_ble_eq_true hle)
            exact ⟨_, .agg ys.toArray, rfl, by simp [loadVar, aggT_run hb, sizeA_run hn, h2 P], .agg' h3⟩
theorem load_sound {P : Program} {r : Nat → Option (Nat × Nat)} {M : Mem} {w : World} {v x x' : Value} (hM : MR r M w) (t : TypeId) (hx : VR r x x') (h : loadA P M t x = some v) :
    ∃ v', (Instr.loadAt t x').run P w = .ok v' w ∧ VR r v v' := by
  obtain ⟨a, v', rfl, h1, h2⟩ := loadVar_sound hM t hx h
  exact ⟨v', by simp [Instr.loadAt, Instr.sureAddr, h1], h2⟩

def storeA (P : Program) (M : Mem) (t : TypeId) (x u : Value) : Option Mem := match x with
  | .pointer (some a) => match look M.bl a.block with
    | some cs => match sizeA P t with
      | some n => bif Nat.ble M.lo a.block && (Nat.beq (cellsOf' u).length n && (Nat.ble (a.off + (cellsOf' u).length) cs.length && (cellsOf' u).all (·.oneCell'))) then
          some { M with bl := upd M.bl a.block (cs.take a.off ++ cellsOf' u ++ cs.drop (a.off + (cellsOf' u).length)) } else none
      | none => none
    | none => none
  | _ => none
theorem storeAt_sound {P : Program} {r : Nat → Option (Nat × Nat)} {M M' : Mem} {w : World} {x x' u u' : Value} (hM : MR r M w) (t : TypeId) (hx : VR r x x') (hu : VR r u u') (h : storeA P M t x u = some M') :
    ∃ w', (Instr.storeAt t x' u').run P w = .ok () w' ∧ MR r M' w' ∧ Stp r M w r M' w' ∧ ∀ a g, x = .pointer (some a) → r a.block = some g → ∀ k, k ≠ g.1 → w'.heap[k]? = w.heap[k]? := by
  unfold storeA at h
  split at h
  case h_2 => cases h
  rename_i a
  obtain ⟨hs, g, hg, rfl⟩ := hx.of_ptr
  cases hl : look M.bl a.block with
  | none => rw [hl] at h; cases h
  | some cs =>
    rw [hl] at h
    cases hn : sizeA P t with
    | none => rw [hn] at h; cases h
    | some n =>
      rw [hn] at h
      simp only at h
      generalize hc : (Nat.ble M.lo a.block && (Nat.beq (cellsOf' u).length n && (Nat.ble (a.off + (cellsOf' u).length) cs.length && (cellsOf' u).all (·.oneCell')))) = c at h
      cases c with
      | false => cases h
      | true =>
        cases h
        simp only [Bool.and_eq_true] at hc
        obtain ⟨c1, c2, c3, c4⟩ := hc
        have hrel := cellsOf_rel hu
        obtain ⟨w', h1, h2, h3, h4⟩ := store_sound hM (Nat.le_of_ble_eq_true c1) hl hg (Nat.le_of_ble_eq_true c3) c4 hrel
        have hlen : u'.cells.size = n := by
          have := hrel.1
          rw [Nat.eq_of_beq_eq_true c2] at this
          simpa using this.symm
        exact ⟨w', by simp [Instr.storeAt, Instr.sureAddr, storeVar, sizeA_run hn, hlen, h1 P], h2, h3, fun a' g' e hg' => by
          cases e; rw [hg] at hg'; cases hg'; exact h4⟩
end Ev
end Go.Proofs.YtccjmmdppjialaaGreatDoor
