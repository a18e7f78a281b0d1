/- The evaluator, K: a region that draws its order; code; the evaluator's soundness. -/
import Derived.Test.YtccjmmdppjialaaGreatDoorEvS
import Derived.Scope
import Derived.OrdersIn
namespace Go.Proofs.YtccjmmdppjialaaGreatDoor
open Go.RowKit
namespace Ev

/-! ### What is still to come of a region, each operation with what it waits for. -/
structure Ent where
  i : Nat
  o : Oper
  pend : List Nat
def pendOf : List Edge → List Nat
  | [] => []
  | e :: r => bif Region.binds .any e then e.on :: pendOf r else pendOf r
def entsAt (n : Nat) : List Oper → List Ent
  | [] => []
  | o :: l => ⟨n, o, pendOf o.after.toList⟩ :: forceN (n + 1) fun n => entsAt n l
def ents (ops : Array Oper) : List Ent := entsAt 0 ops.toList
def minusK {α : Type} (i : Nat) : List Nat → (List Nat → α) → α
  | [], k => k []
  | j :: r, k => bif Nat.beq j i then minusK i r k else minusK i r fun r => k (j :: r)
def minus (i : Nat) : List Nat → List Nat
  | [] => []
  | j :: r => bif Nat.beq j i then minus i r else j :: minus i r
theorem minusK_eq {α : Type} (i : Nat) : ∀ (l : List Nat) (k : List Nat → α), minusK i l k = k (minus i l)
  | [], _ => rfl
  | j :: r, k => by
    simp only [minusK, minus]
    cases Nat.beq j i with
    | true => simp only [cond_true, minusK_eq i r]
    | false => simp only [cond_false, minusK_eq i r]
theorem mem_minus {i k : Nat} : ∀ {l : List Nat}, k ∈ minus i l ↔ k ∈ l ∧ k ≠ i
  | [] => by simp [minus]
  | j :: r => by
    simp only [minus]
    cases h : Nat.beq j i with
    | true =>
      have := Nat.eq_of_beq_eq_true h
      subst this
      simp only [cond_true, mem_minus (l := r), List.mem_cons]
      exact ⟨fun ⟨h1, h2⟩ => ⟨.inr h1, h2⟩, fun ⟨h1, h2⟩ => ⟨h1.resolve_left h2, h2⟩⟩
    | false =>
      have hne : ¬ j = i := fun e => by subst e; simp at h
      simp only [cond_false, mem_minus (l := r), List.mem_cons]
      exact ⟨fun h => h.elim (fun e => ⟨.inl e, by rw [e]; exact hne⟩) fun ⟨h1, h2⟩ => ⟨.inr h1, h2⟩, fun ⟨h1, h2⟩ => h1.imp id fun h1 => ⟨h1, h2⟩⟩
def next (i : Nat) : List Ent → List Ent
  | [] => []
  | ⟨j, o, p⟩ :: r => bif Nat.beq j i then next i r else minusK i p fun p => ⟨j, o, p⟩ :: next i r
theorem mem_next {i : Nat} {e : Ent} : ∀ {l : List Ent}, e ∈ next i l ↔ ∃ e0 ∈ l, e0.i ≠ i ∧ e = ⟨e0.i, e0.o, minus i e0.pend⟩
  | [] => by simp [next]
  | ⟨j, o, p⟩ :: r => by
    simp only [next, minusK_eq]
    cases h : Nat.beq j i with
    | true =>
      have := Nat.eq_of_beq_eq_true h
      subst this
      simp only [cond_true, mem_next (l := r)]
      constructor
      · rintro ⟨e0, h1, h2⟩; exact ⟨e0, List.mem_cons_of_mem _ h1, h2⟩
      · rintro ⟨e0, h1, h2, h3⟩
        rcases List.mem_cons.1 h1 with rfl | h1
        · exact absurd rfl h2
        · exact ⟨e0, h1, h2, h3⟩
    | false =>
      have hne : ¬ j = i := fun e => by subst e; simp at h
      simp only [cond_false, List.mem_cons, mem_next (l := r)]
      constructor
      · rintro (rfl | ⟨e0, h1, h2⟩)
        · exact ⟨⟨j, o, p⟩, .inl rfl, hne, rfl⟩
        · exact ⟨e0, .inr h1, h2⟩
      · rintro ⟨e0, rfl | h1, h2, h3⟩
        · exact .inl h3
        · exact .inr ⟨e0, h1, h2, h3⟩
def memN (i : Nat) : List Nat → Bool
  | [] => false
  | j :: r => bif Nat.beq j i then true else memN i r
theorem memN_mem {i : Nat} : ∀ {l : List Nat}, memN i l = true → i ∈ l
  | [], h => by cases h
  | j :: r, h => by
    simp only [memN] at h
    cases hj : Nat.beq j i with
    | true => rw [Nat.eq_of_beq_eq_true hj]; exact List.mem_cons_self
    | false => rw [hj] at h; exact List.mem_cons_of_mem _ (memN_mem h)
def freeL (ops : Array Oper) (i : Nat) (oi : Oper) : List Ent → Bool
  | [] => true
  | ⟨j, o, p⟩ :: r => bif Nat.beq j i then freeL ops i oi r else bif memN i p then freeL ops i oi r else bif oi.apart ops o then freeL ops i oi r else false
theorem freeL_all {ops : Array Oper} {i : Nat} {oi : Oper} : ∀ {l : List Ent}, freeL ops i oi l = true → ∀ e ∈ l, e.i = i ∨ i ∈ e.pend ∨ oi.apart ops e.o = true
  | [], _, e, h => by cases h
  | ⟨j, o, p⟩ :: r, h, e, he => by
    simp only [freeL] at h
    have rest : freeL ops i oi r = true := by
      cases h1 : Nat.beq j i <;> rw [h1] at h
      · cases h2 : memN i p <;> rw [h2] at h
        · cases h3 : oi.apart ops o <;> rw [h3] at h
          · cases h
          · exact h
        · exact h
      · exact h
    rcases List.mem_cons.1 he with rfl | he
    · cases h1 : Nat.beq j i with
      | true => exact .inl (Nat.eq_of_beq_eq_true h1)
      | false =>
        rw [h1] at h
        cases h2 : memN i p with
        | true => exact .inr (.inl (memN_mem h2))
        | false =>
          rw [h2] at h
          cases h3 : oi.apart ops o with
          | true => exact .inr (.inr rfl)
          | false => rw [h3] at h; cases h
    · exact freeL_all rest e he
def readyL : List Ent → List (Nat × Oper)
  | [] => []
  | ⟨j, o, p⟩ :: r => match p with
    | [] => (j, o) :: readyL r
    | _ => readyL r
theorem mem_readyL {j : Nat} {o : Oper} : ∀ {l : List Ent}, (j, o) ∈ readyL l ↔ ⟨j, o, []⟩ ∈ l
  | [] => by simp [readyL]
  | ⟨i, o', p⟩ :: r => by
    cases p with
    | nil => simp [readyL, mem_readyL (l := r)]
    | cons k p => simp [readyL, mem_readyL (l := r)]
def cands (ops : Array Oper) (all : List Ent) : List Ent → List (Nat × Oper)
  | [] => []
  | ⟨j, o, p⟩ :: r => match p with
    | [] => bif freeL ops j o all then (j, o) :: cands ops all r else cands ops all r
    | _ => cands ops all r
theorem mem_cands {ops : Array Oper} {all : List Ent} {j : Nat} {o : Oper} : ∀ {l : List Ent}, (j, o) ∈ cands ops all l → ⟨j, o, []⟩ ∈ l ∧ freeL ops j o all = true
  | [], h => by simp [cands] at h
  | ⟨i, o', p⟩ :: r, h => by
    cases p with
    | nil =>
      simp only [cands] at h
      cases hf : freeL ops i o' all with
      | true =>
        rw [hf] at h
        rcases List.mem_cons.1 h with h | h
        · cases h; exact ⟨List.mem_cons_self, hf⟩
        · exact ⟨List.mem_cons_of_mem _ (mem_cands h).1, (mem_cands h).2⟩
      | false => rw [hf] at h; exact ⟨List.mem_cons_of_mem _ (mem_cands h).1, (mem_cands h).2⟩
    | cons k p => simp only [cands] at h; exact ⟨List.mem_cons_of_mem _ (mem_cands h).1, (mem_cands h).2⟩
structure RemOk (ops : Array Oper) (listed : Array Bool) (rem : List Ent) : Prop where
  mem : ∀ e ∈ rem, ops[e.i]? = some e.o ∧ listed.getD e.i true = false ∧ ∀ k, k ∈ e.pend ↔ ∃ a ∈ e.o.after, Region.binds .any a = true ∧ a.on = k ∧ listed.getD k false = false
  all : ∀ (j : Nat) o, ops[j]? = some o → listed.getD j true = false → ∃ e ∈ rem, e.i = j
theorem RemOk.ready {ops : Array Oper} {listed : Array Bool} {rem : List Ent} (h : RemOk ops listed rem) {j : Nat} : j ∈ Region.ready .any ops listed ↔ ∃ o, (j, o) ∈ readyL rem := by
  rw [mem_ready]
  constructor
  · rintro ⟨h1, o, h2, h3⟩
    obtain ⟨⟨i, o', p⟩, k1, rfl⟩ := h.all j o h2 h1
    obtain ⟨m1, m2, m3⟩ := h.mem _ k1
    simp only at h2 m1 m3
    rw [h2] at m1; cases m1
    refine ⟨o, mem_readyL.2 ?_⟩
    cases p with
    | nil => exact k1
    | cons k p =>
      obtain ⟨a, n1, n2, n3, n4⟩ := (m3 k).1 List.mem_cons_self
      have := h3 a n1 n2
      rw [n3, n4] at this
      cases this
  · rintro ⟨o, h1⟩
    obtain ⟨m1, m2, m3⟩ := h.mem _ (mem_readyL.1 h1)
    refine ⟨m2, o, m1, fun a n1 n2 => ?_⟩
    cases hl : listed.getD a.on false with
    | true => rfl
    | false => cases (m3 a.on).2 ⟨a, n1, n2, rfl, hl⟩
theorem RemOk.done {ops : Array Oper} {listed : Array Bool} {rem : List Ent} (h : RemOk ops listed rem) (hr : readyL rem = []) : Region.ready .any ops listed = [] := by
  rw [List.eq_nil_iff_forall_not_mem]
  intro j hj
  obtain ⟨o, ho⟩ := h.ready.1 hj
  rw [hr] at ho
  cases ho
theorem RemOk.free {ops : Array Oper} {listed : Array Bool} {rem : List Ent} (h : RemOk ops listed rem) {i : Nat} {oi : Oper} {p : List Nat} (he : ⟨i, oi, p⟩ ∈ rem) (hf : freeL ops i oi rem = true) : Region.free .any ops listed i = true := by
  obtain ⟨m1, _, _⟩ := h.mem _ he
  simp only at m1
  unfold Region.free
  simp only [m1, List.all_eq_true, List.mem_range, Bool.or_eq_true, beq_iff_eq]
  intro j hj
  cases hl : listed.getD j true with
  | true => exact .inl (.inr rfl)
  | false =>
    have ho : ops[j]? = some ops[j] := Array.getElem?_eq_getElem hj
    obtain ⟨e, k1, rfl⟩ := h.all j _ ho hl
    obtain ⟨n1, _, n3⟩ := h.mem _ k1
    rw [ho] at n1
    simp only [ho]
    have hoe : e.o = ops[e.i] := (Option.some.inj n1).symm
    rcases freeL_all hf e k1 with q | q | q
    · exact .inl (.inl q)
    · obtain ⟨a, a1, a2, a3, _⟩ := (n3 i).1 q
      refine .inr ?_
      rw [Bool.or_eq_true]
      refine .inl (Array.any_eq_true'.2 ⟨a, by rw [← hoe]; exact a1, by simp [a2, a3]⟩)
    · refine .inr ?_
      rw [Bool.or_eq_true, ← hoe]
      exact .inr q
theorem RemOk.next {ops : Array Oper} {listed : Array Bool} {rem : List Ent} (h : RemOk ops listed rem) {i : Nat} (hi : listed.getD i true = false) : RemOk ops (listed.setIfInBounds i true) (next i rem) := by
  have hlt : i < listed.size := by
    rcases Nat.lt_or_ge i listed.size with q | q
    · exact q
    · simp [Array.getElem?_eq_none q] at hi
  have hself : ∀ d, (listed.setIfInBounds i true).getD i d = true := fun d => by simp [hlt]
  refine ⟨fun e he => ?_, fun j o ho hj => ?_⟩
  · obtain ⟨e0, h1, h2, rfl⟩ := mem_next.1 he
    obtain ⟨m1, m2, m3⟩ := h.mem _ h1
    refine ⟨m1, by simp only; rw [getD_set_ne true (Ne.symm h2)]; exact m2, fun k => ?_⟩
    simp only [mem_minus, m3]
    constructor
    · rintro ⟨⟨a, a1, a2, a3, a4⟩, hk⟩
      exact ⟨a, a1, a2, a3, by rw [getD_set_ne false (Ne.symm hk)]; exact a4⟩
    · rintro ⟨a, a1, a2, a3, a4⟩
      have hk : k ≠ i := fun e => by subst e; rw [hself] at a4; cases a4
      exact ⟨⟨a, a1, a2, a3, by rw [getD_set_ne false (Ne.symm hk)] at a4; exact a4⟩, hk⟩
  · have hne : j ≠ i := fun e => by subst e; rw [hself] at hj; cases hj
    rw [getD_set_ne true (Ne.symm hne)] at hj
    obtain ⟨e, h1, h2⟩ := h.all j o ho hj
    exact ⟨_, mem_next.2 ⟨e, h1, by rw [h2]; exact hne, rfl⟩, h2⟩
theorem mem_pendOf {k : Nat} : ∀ {l : List Edge}, k ∈ pendOf l ↔ ∃ a ∈ l, Region.binds .any a = true ∧ a.on = k
  | [] => by simp [pendOf]
  | e :: r => by
    simp only [pendOf]
    cases h : Region.binds .any e with
    | true =>
      simp only [cond_true, List.mem_cons, mem_pendOf (l := r)]
      constructor
      · rintro (rfl | ⟨a, a1, a2⟩)
        · exact ⟨e, .inl rfl, h, rfl⟩
        · exact ⟨a, .inr a1, a2⟩
      · rintro ⟨a, rfl | a1, a2, a3⟩
        · exact .inl a3.symm
        · exact .inr ⟨a, a1, a2, a3⟩
    | false =>
      simp only [cond_false, List.mem_cons, mem_pendOf (l := r)]
      constructor
      · rintro ⟨a, a1, a2⟩; exact ⟨a, .inr a1, a2⟩
      · rintro ⟨a, rfl | a1, a2, a3⟩
        · rw [h] at a2; cases a2
        · exact ⟨a, a1, a2, a3⟩
theorem mem_entsAt {e : Ent} : ∀ {l : List Oper} {n : Nat}, e ∈ entsAt n l ↔ ∃ (k : Nat) (o : Oper), l[k]? = some o ∧ e = ⟨n + k, o, pendOf o.after.toList⟩
  | [], n => by simp [entsAt]
  | o :: l, n => by
    simp only [entsAt, forceN_eq, List.mem_cons, mem_entsAt (l := l) (n := n + 1)]
    constructor
    · rintro (rfl | ⟨k, o', h1, rfl⟩)
      · exact ⟨0, o, rfl, rfl⟩
      · exact ⟨k + 1, o', h1, by rw [Nat.add_right_comm]; rfl⟩
    · rintro ⟨k, o', h1, rfl⟩
      cases k with
      | zero => cases h1; exact .inl rfl
      | succ k => exact .inr ⟨k, o', h1, by rw [Nat.add_right_comm]; rfl⟩
theorem RemOk.start (ops : Array Oper) : RemOk ops (Array.replicate ops.size false) (ents ops) := by
  have hf : ∀ k, (Array.replicate ops.size false).getD k false = false := fun k => by
    simp only [Array.getD_eq_getD_getElem?, Array.getElem?_replicate]
    split <;> rfl
  refine ⟨fun e he => ?_, fun j o ho hj => ?_⟩
  · obtain ⟨k, o, h1, rfl⟩ := mem_entsAt.1 he
    have hk : ops[k]? = some o := by rw [← Array.getElem?_toList]; exact h1
    have hlt : k < ops.size := (Array.getElem?_eq_some_iff.1 hk).1
    refine ⟨by simpa using hk, by simp [hlt], fun m => ?_⟩
    simp only [mem_pendOf, hf, and_true]
    constructor
    · rintro ⟨a, a1, a2⟩; exact ⟨a, Array.mem_toList_iff.1 a1, a2⟩
    · rintro ⟨a, a1, a2⟩; exact ⟨a, Array.mem_toList_iff.2 a1, a2⟩
  · refine ⟨⟨j, o, pendOf o.after.toList⟩, mem_entsAt.2 ⟨j, o, by rw [Array.getElem?_toList]; exact ho, by simp⟩, rfl⟩

/-- The first operation among those that may be taken first which yields without more ado, with what it yields. -/
def takeE (P : Program) (ops : Array Oper) (St : List (Nat × List Value)) (env : Env) : List (Nat × Oper) → Option (Nat × Option Tmp × Value)
  | [] => none
  | (i, o) :: rest => bif wantedA ops env o then match opP P env o with
      | some v => some (i, o.dst, v)
      | none => match opL P St env o with
        | some v => some (i, o.dst, v)
        | none => takeE P ops St env rest
    else some (i, o.dst, Go.undef)

theorem takeE_sound {P : Program} {ops : Array Oper} {St : List (Nat × List Value)} {env : Env} {r r0 : Nat → Option (Nat × Nat)} {M0 : Mem} {w0 : World} {a : Act} (he : ER r env a.tmps)
    (hext : ∀ i g, r0 i = some g → r i = some g) (hM : MR r0 { M0 with bl := St, gl := [], ob := [] } w0) : ∀ {rs : List (Nat × Oper)} {i : Nat} {d : Option Tmp} {v : Value}, takeE P ops St env rs = some (i, d, v) →
    ∃ o v', (i, o) ∈ rs ∧ o.dst = d ∧ VR r v v' ∧ YieldsIf P ops (Stay St r0 w0) o v' a
  | [], i, d, v, h => by cases h
  | (j, o) :: rest, i, d, v, h => by
    simp only [takeE] at h
    have hw' := wantedA_eq ops he o
    cases hw : wantedA ops env o with
    | false =>
      rw [hw] at h; cases h
      exact ⟨o, Go.undef, List.mem_cons_self, rfl, .undef r, .inr ⟨hw'.trans hw, rfl⟩⟩
    | true =>
      rw [hw] at h
      simp only [cond_true] at h
      cases hp : opP P env o with
      | some u =>
        rw [hp] at h; cases h
        obtain ⟨v', h1, h2⟩ := opP_sound hp he
        exact ⟨o, v', List.mem_cons_self, rfl, h2, .inl ⟨hw'.trans hw, fun w _ => h1 w⟩⟩
      | none =>
        rw [hp] at h
        simp only at h
        cases hl : opL P St env o with
        | some u =>
          rw [hl] at h; cases h
          obtain ⟨v', h1, h2⟩ := opL_sound hl he hext hM
          exact ⟨o, v', List.mem_cons_self, rfl, h2, .inl ⟨hw'.trans hw, h1⟩⟩
        | none =>
          rw [hl] at h
          obtain ⟨o', v', h1, h2⟩ := takeE_sound he hext hM h
          exact ⟨o', v', List.mem_cons_of_mem _ h1, h2⟩

/-- One operation carried out, the blocks of 'St' untouched: a store into another block, or anything that writes to no old block. -/
def storeTo (env : Env) (o : Oper) : Option Nat := match o.op with
  | .store _ x _ => match ev env x with
    | some (.pointer (some a)) => some a.block
    | _ => none
  | _ => none
/-- What an operation may write to: all but the blocks that are to stay; the tables stay in sight. -/
def pub (St gl : List (Nat × List Value)) (i : Nat) : Bool := match look St i with
  | none => true
  | some _ => match look gl i with
    | none => false
    | some _ => true
def stepE (P : Program) (T : Tab) (self : Self) (St : List (Nat × List Value)) (env : Env) (M : Mem) (o : Oper) : Option (Value × Mem) := match St with
  | [] => opV P T self env M o
  | _ => match storeTo env o with
    | some b => match look St b with
      | none => opV P T self env M o
      | some _ => none
    | none => match opV P T self env { M with lo := 64 * M.next } o with
      | some (v, M') => some (v, { M' with lo := M.lo })
      | none => bif Nat.ble M.lo (64 * M.next) then match opV P T self env { M with bl := sel (pub St M.gl) M.bl } o with
          | some (v, M') => some (v, { M' with bl := M'.bl ++ sel (fun i => !pub St M.gl i) M.bl })
          | none => none
        else none

def bestE (P : Program) (T : Tab) (self : Self) (ops : Array Oper) (St : List (Nat × List Value)) (env : Env) (M : Mem) (o : Oper) : Option (Env × Mem) :=
  bif wantedA ops env o then match stepE P T self St env M o with
    | some (v, M') => forceD 4 v fun v => forceM M' fun M' => putK env o.dst v fun env => some (env, M')
    | none => none
  else putK env o.dst Go.undef fun env => some (env, M)

/-! ### The states that a region may be in after so many operations: those that have the same still to come must say the same. -/
abbrev Pt := List Ent × Env × Mem
def beqE : List Ent → List Ent → Bool
  | [], [] => true
  | ⟨i, _, p⟩ :: r, ⟨j, _, q⟩ :: s => bif Nat.beq i j then bif beqN p q then beqE r s else false else false
  | _, _ => false
def addP (lim lo : Nat) (gl : List (Nat × List Value)) (rx : List Ent) (ex : Env) (Mx : Mem) : List Pt → Option (List Pt)
  | [] => some [(rx, ex, Mx)]
  | (ry, ey, My) :: l => bif beqE ry rx then (match simE lim lo gl ey ex My Mx with
      | some C => forceM C fun C => some ((ry, ey, C) :: l)
      | none => none)
    else match addP lim lo gl rx ex Mx l with
      | some l' => some ((ry, ey, My) :: l')
      | none => none
def addAll (lim lo : Nat) (gl : List (Nat × List Value)) : List Pt → List Pt → Option (List Pt)
  | [], acc => some acc
  | (rx, ex, Mx) :: xs, acc => match addP lim lo gl rx ex Mx acc with
    | some acc' => addAll lim lo gl xs acc'
    | none => none
def eachP (P : Program) (T : Tab) (self : Self) (ops : Array Oper) (St : List (Nat × List Value)) (rem : List Ent) (env : Env) (M : Mem) : List (Nat × Oper) → Option (List Pt)
  | [] => some []
  | (i, o) :: rs => match bestE P T self ops St env M o with
    | some (env', M') => (match eachP P T self ops St rem env M rs with
      | some ys => some ((next i rem, env', M') :: ys)
      | none => none)
    | none => none
def succE (P : Program) (T : Tab) (self : Self) (ops : Array Oper) (St : List (Nat × List Value)) (rem : List Ent) (env : Env) (M : Mem) : Option (List Pt) := match takeE P ops St env (cands ops rem rem) with
  | some (i, d, v) => forceD 4 v fun v => putK env d v fun env => some [(next i rem, env, M)]
  | none => match readyL rem with
    | [] => none
    | r :: rs => eachP P T self ops St rem env M (r :: rs)
def stepF (P : Program) (T : Tab) (self : Self) (ops : Array Oper) (St : List (Nat × List Value)) (lim lo : Nat) (gl : List (Nat × List Value)) : List Pt → List Pt → Option (List Pt)
  | [], acc => some acc
  | (rem, env, M) :: F, acc => match succE P T self ops St rem env M with
    | some ys => (match addAll lim lo gl ys acc with
      | some acc' => stepF P T self ops St lim lo gl F acc'
      | none => none)
    | none => none
/-- How far it comes: to the end, or to where one operation must come that is no plain one. -/
inductive Lv where
  | fin (e : Env) (M : Mem)
  | stop (n : Nat) (rem : List Ent) (e : Env) (M : Mem)
def doneE (F : List Pt) : Option Lv := match F with
  | [(rem, env, M)] => (match readyL rem with
    | [] => some (.fin env M)
    | _ => none)
  | _ => none
def stopE (n : Nat) (F : List Pt) : Option Lv := match F with
  | [(rem, env, M)] => some (.stop n rem env M)
  | _ => none
def levE (P : Program) (T : Tab) (self : Self) (ops : Array Oper) (St : List (Nat × List Value)) (lim lo : Nat) (gl : List (Nat × List Value)) : Nat → List Pt → Option Lv
  | 0, F => doneE F
  | n + 1, F => match doneE F with
    | some x => some x
    | none => match stepF P T self ops St lim lo gl F [] with
      | some F' => levE P T self ops St lim lo gl n F'
      | none => stopE (n + 1) F

/-! ### Any order, in a round or not, a condition on the world kept behind each operation. -/
section
variable {P : Program} {ro : Option Nat} {ops : Array Oper} {Q : Exit → Act → World → Prop} {S : World → Prop}
def NoDef (ops : Array Oper) : Prop := ∀ o ∈ ops.toList, ∀ c, o.op ≠ .defer c
theorem NoDef.at {ops : Array Oper} (h : NoDef ops) {i : Nat} {o : Oper} (hi : ops[i]? = some o) : ∀ c, o.op ≠ .defer c :=
  h o (by rw [← Array.getElem?_toList] at hi; exact List.mem_of_getElem? hi)
/-- One operation, then K. -/
theorem opI_val {i : Nat} {o : Oper} {v : Value} {a : Act} {w : World} {K : Act → World → Prop} (hd : NoDef ops) (hi : ops[i]? = some o) (hy : YieldsIf P ops S o v a) (hS : S w) (hK : K (a.put o.dst v) w) : wpOpIn (FR ro) 0 P ops Q i K a w := by
  unfold wpOpIn
  simp only [hi]
  rcases hy with ⟨hw, hv⟩ | ⟨hw, rfl⟩
  · rw [if_pos hw]
    refine ⟨fun _ _ => trivial, ?_⟩
    rw [Oper.semAt_eq _ _ _ (hd.at hi), hv w hS]
    exact hK
  · rw [hw, if_neg (by simp)]
    exact ⟨fun _ _ => trivial, hK⟩
/-- What 'oi' yields may be there already when 'oj' comes, which is apart from it. -/
theorem opI_swap {j : Nat} {oi oj : Oper} {v : Value} (hd : NoDef ops) (hj : ops[j]? = some oj) (hap : oi.apart ops oj = true)
    (hsi : ∀ cs b, oi.op ≠ .select cs b) (hsj : ∀ cs b, oj.op ≠ .select cs b) (hQ : ∀ c a w, Q (.panic c) (a.put oi.dst v) w → Q (.panic c) a w)
    {K : Act → World → Prop} {a : Act} {w : World} (hy : YieldsIf P ops S oi v a) (h : wpOpIn (FR ro) 0 P ops Q j K (a.put oi.dst v) w) :
    wpOpIn (FR ro) 0 P ops Q j (fun a' w' => YieldsIf P ops S oi v a' ∧ K (a'.put oi.dst v) w') a w := by
  obtain ⟨p1, p2, p3⟩ := Oper.apart_spec hap
  have on : ∀ u, YieldsIf P ops S oi v (a.put oj.dst u) := fun u => hy.of_same (execOp_put oi hsi a oj.dst u p3) (wanted_put oi a oj.dst u p3)
  have sw : ∀ u, (a.put oi.dst v).put oj.dst u = (a.put oj.dst u).put oi.dst v := fun u => Act.put_comm a v u p2
  have fin : ∀ u w', K ((a.put oi.dst v).put oj.dst u) w' → YieldsIf P ops S oi v (a.put oj.dst u) ∧ K ((a.put oj.dst u).put oi.dst v) w' := fun u w' hk => ⟨on u, by rw [← sw u]; exact hk⟩
  unfold wpOpIn at h ⊢
  simp only [hj] at h ⊢
  rw [wanted_put oj a oi.dst v p1] at h
  by_cases hw : Region.wanted oj (yielded ops a.tmps) = true
  · rw [if_pos hw] at h ⊢
    refine ⟨fun _ _ => trivial, ?_⟩
    have h := h.2
    rw [Oper.semAt_eq _ _ _ (hd.at hj), execOp_put oj hsj a oi.dst v p1] at h
    rw [Oper.semAt_eq _ _ _ (hd.at hj)]
    generalize (execOp a.eval oj).run P w = q at h ⊢
    cases q with
    | halt x w' => cases x <;> first | exact h | exact hQ _ _ _ h
    | ok x w' =>
      cases x with
      | value u => exact fin u w' h
      | skip => exact fin _ w' h
      | defer d =>
        refine ⟨?_, ?_⟩
        · have : YieldsIf P ops S oi v { a with defers := d :: a.defers } := hy.of_same rfl rfl
          exact this.of_same (execOp_put oi hsi _ oj.dst _ p3) (wanted_put oi _ oj.dst _ p3)
        · have e : ({ a.put oi.dst v with defers := d :: (a.put oi.dst v).defers } : Act) = ({ a with defers := d :: a.defers } : Act).put oi.dst v := by
            cases oi.dst <;> rfl
          have h' : K (({ a.put oi.dst v with defers := d :: (a.put oi.dst v).defers } : Act).put oj.dst Go.undef) w' := h
          rw [e, Act.put_comm _ v Go.undef p2] at h'
          exact h'
      | enter f args =>
        refine ⟨h.1, CallsIn.mono h.2 fun e w2 he => ?_⟩
        cases e with
        | returned u => exact fin u w2 he
        | panicked c => exact hQ _ _ _ he
        | outgrown => exact he
      | row row args => exact ⟨h.1, RowsIn.mono h.2 fun u w2 he => fin u w2 he⟩
      | round l f tmps assign body =>
        refine ⟨h.1, RoundIn.mono h.2 fun e w2 he => ?_⟩
        cases e with
        | returned u => exact fin u w2 he
        | panicked c => exact hQ _ _ _ he
        | outgrown => exact he
      | _ => exact h
  · rw [if_neg hw] at h ⊢
    exact ⟨fun _ _ => trivial, fin _ w h.2⟩
def anyS (P : Program) (ro : Option Nat) (ops : Array Oper) (Q : Exit → Act → World → Prop) (S : World → Prop) : Nat → Array Bool → Act → World → Prop
  | 0, listed, a, w => Region.ready .any ops listed = [] ∧ Q .normal a w
  | n + 1, listed, a, w => (Region.ready .any ops listed = [] → Q .normal a w) ∧
    ∀ i ∈ Region.ready .any ops listed, wpOpIn (FR ro) 0 P ops Q i (fun a' w' => S w' ∧ anyS P ro ops Q S n (listed.setIfInBounds i true) a' w') a w
theorem anyS_in : ∀ (n : Nat) {listed : Array Bool} {a : Act} {w : World}, anyS P ro ops Q S n listed a w → wpAnyIn (FR ro) 0 P .any ops Q n listed a w
  | 0, _, _, _, h => h
  | n + 1, _, _, _, h => ⟨h.1, fun i hi => wpOpIn_mono (fun _ _ h' => anyS_in n h'.2) (h.2 i hi)⟩
theorem anyS_end {listed : Array Bool} {a : Act} {w : World} (hr : Region.ready .any ops listed = []) (h : Q .normal a w) : ∀ n, anyS P ro ops Q S n listed a w
  | 0 => ⟨hr, h⟩
  | _ + 1 => ⟨fun _ => h, fun i hi => by rw [hr] at hi; cases hi⟩
theorem anyS_first {i : Nat} {oi : Oper} {v : Value} (hd : NoDef ops) (hi : ops[i]? = some oi) (hsel : Region.noSelect ops = true) (hQ : ∀ c a w, Q (.panic c) (a.put oi.dst v) w → Q (.panic c) a w) :
    ∀ (n : Nat) {listed : Array Bool} {a : Act} {w : World},
      (∀ (j : Nat) oj, ops[j]? = some oj → j ≠ i → listed.getD j true = false → (∀ e ∈ oj.after, Region.binds .any e = true → e.on ≠ i) → oi.apart ops oj = true) →
      i ∈ Region.ready .any ops listed → YieldsIf P ops S oi v a → S w → anyS P ro ops Q S n (listed.setIfInBounds i true) (a.put oi.dst v) w → anyS P ro ops Q S (n + 1) listed a w := by
  have hns := Region.noSelect_spec hsel
  intro n
  induction n with
  | zero =>
    intro listed a w _ hr hy hS h
    refine ⟨fun e => (by rw [e] at hr; cases hr), fun j hj => ?_⟩
    rcases Nat.decEq j i with hne | rfl
    · have := ready_mono hj hne
      rw [h.1] at this; cases this
    · exact opI_val hd hi hy hS ⟨hS, h⟩
  | succ n ih =>
    intro listed a w hfree hr hy hS h
    refine ⟨fun e => (by rw [e] at hr; cases hr), fun j hj => ?_⟩
    rcases Nat.decEq j i with hne | rfl
    · obtain ⟨hun, oj, hoj, hall⟩ := mem_ready.1 hj
      have hfr := (mem_ready.1 hr).1
      have hno : ∀ e ∈ oj.after, Region.binds .any e = true → e.on ≠ i := fun e he hb q => by
        have h1 := hall e he hb
        rw [q] at h1
        rcases Nat.lt_or_ge i listed.size with k | k
        · simp [k] at hfr h1; rw [hfr] at h1; cases h1
        · simp [Array.getElem?_eq_none k] at h1
      refine wpOpIn_mono (fun a' w' q => ⟨q.2.1, ih (fun k ok hk hki hkun hkno => hfree k ok hk hki ?_ hkno) (ready_mono hr (Ne.symm hne)) q.1 q.2.1 ?_⟩) (opI_swap hd hoj (hfree j oj hoj hne hun hno) (fun cs b => hns i oi cs b hi) (fun cs b => hns j oj cs b hoj) hQ hy (h.2 j (ready_mono hj hne)))
      · rcases Nat.decEq j k with e | e
        · rw [getD_set_ne true e] at hkun; exact hkun
        · subst e; exact hun
      · rw [Array.setIfInBounds_comm _ _ hne]
        exact q.2.2
    · exact opI_val hd hi hy hS ⟨hS, h⟩
theorem anyS_take {i : Nat} {oi : Oper} {v : Value} {n : Nat} {listed : Array Bool} {a : Act} {w : World} (hd : NoDef ops) (hi : ops[i]? = some oi) (hsel : Region.noSelect ops = true) (hf : Region.free .any ops listed i = true)
    (hr : i ∈ Region.ready .any ops listed) (hQ : ∀ c a w, Q (.panic c) (a.put oi.dst v) w → Q (.panic c) a w) (hy : YieldsIf P ops S oi v a) (hS : S w) (h : anyS P ro ops Q S n (listed.setIfInBounds i true) (a.put oi.dst v) w) : anyS P ro ops Q S (n + 1) listed a w :=
  anyS_first hd hi hsel hQ n (Region.free_spec hi hf) hr hy hS h
end

/-! ### Soundness of a region that draws its order. -/
structure Inv (r0 : Nat → Option (Nat × Nat)) (M0 : Mem) (w0 : World) (St : List (Nat × List Value)) (r : Nat → Option (Nat × Nat)) (M : Mem) (w : World) : Prop where
  ext : ∀ i g, r0 i = some g → r i = some g
  size : w0.heap.size ≤ w.heap.size
  stay : Stay St r0 w0 w
  apart : ∀ i cs g, look M.bl i = some cs → r i = some g → look St i = none → ∀ j ds h, look St j = some ds → r0 j = some h → h.1 ≠ g.1

theorem storeA_look {P : Program} {M M' : Mem} {t : TypeId} {a : Addr} {u : Value} (h : storeA P M t (.pointer (some a)) u = some M') : ∃ ds, look M.bl a.block = some ds := by
  unfold storeA at h
  cases hl : look M.bl a.block with
  | none => simp only [hl] at h; cases h
  | some cs => exact ⟨cs, rfl⟩

theorem step_sound {P : Program} (hN : noRoutines P) {G : List (Nat × List Value)} {T : Tab} (hT : TOk P G T) {self : Self} (hself : SelfOk P G self) {St : List (Nat × List Value)} {env : Env} {M M' : Mem} {o : Oper} {v : Value} {r r0 : Nat → Option (Nat × Nat)} {M0 : Mem} {w0 : World} {a : Act} {w : World}
    (h : stepE P T self St env M o = some (v, M')) (he : ER r env a.tmps) (hM : MR r M w) (hM0 : MR r0 M0 w0) (hSt : ∀ i cs, look St i = some cs → look M0.bl i = some cs) (hI : Inv r0 M0 w0 St r M w) (hG : M.gl = G)
    (ro : Option Nat) (hnd : ∀ c, o.op ≠ .defer c) {K : Act → World → Prop} {Q : Exit → Act → World → Prop} (hK : ∀ r' v' w', VR r' v v' → MR r' M' w' → Stp r M w r' M' w' → Inv r0 M0 w0 St r' M' w' → K (a.put o.dst v') w') : o.wpIn (FR ro) 0 P a w K Q := by
  have far : ∀ i cs g, look St i = some cs → r0 i = some g → g.1 < w.heap.size := fun i cs g hl hi => by
    have := hM0.lt (hSt i cs hl) hi
    have := hI.size
    omega
  -- the objects are no blocks
  have noOb : ∀ i cs g, look St i = some cs → r0 i = some g → ∀ j o k, look M.ob j = some o → r j = some k → k.1 ≠ g.1 := fun i cs g hl hi j o k ho hk e => by
    obtain ⟨g', t, cc, k1, k2, _⟩ := hM0.blk i cs (hSt i cs hl)
    rw [hi] at k1; cases k1
    obtain ⟨k', x, k3, k4, k5⟩ := hM.obj j o ho
    rw [hk] at k3; cases k3
    rw [e, hI.stay i cs g hl hi, k2] at k4; cases k4
    exact k5.not_cells
  unfold stepE at h
  split at h
  · exact opV_soundIn hN hT hself ro h hnd he hM hG fun r' v' w' h1 h2 h3 => hK r' v' w' h1 h2 h3
      ⟨fun i g hi => h3.ext _ _ (hI.ext i g hi), Nat.le_trans hI.size h3.size, fun i cs g hl => (by cases hl), fun _ _ _ _ _ _ j ds k hl => (by cases hl)⟩
  · split at h
    · rename_i b hb
      split at h
      case h_2 => cases h
      rename_i hlk
      -- a store into another block
      obtain ⟨dst, op, ty, pos, after, guard⟩ := o
      unfold storeTo at hb
      split at hb
      case h_2 => cases hb
      rename_i t x y hop
      simp only at hop
      subst hop
      split at hb
      case h_2 => cases hb
      rename_i ad hx
      cases hb
      have hx' := ev_sound he hx
      obtain ⟨hs, g, hg, hv⟩ := hx'.of_ptr
      -- what the evaluator did is the store
      have hst : ∃ u, ev env y = some u ∧ ∃ M2, storeA P M t (.pointer (some ad)) u = some M2 ∧ v = Go.undef ∧ M' = M2 := by
        have hn : nextP P env ⟨dst, .store t x y, ty, pos, after, guard⟩ = none := by
          simp [nextP, isSelect, afAll, Op.operands, hx, af]
        simp only [opV, opE, calleeA, opT, opS, opC, opX, opZ, panicA, hx] at h
        cases hy : ev env y with
        | none => rw [hy] at h; simp only [hn] at h; cases h
        | some u =>
          rw [hy] at h
          simp only at h
          cases hq : storeA P M t (.pointer (some ad)) u with
          | none => rw [hq] at h; simp only [hn] at h; cases h
          | some M2 => rw [hq] at h; cases h; exact ⟨u, rfl, _, hq, rfl, rfl⟩
      obtain ⟨u, hy, M2, hq, rfl, rfl⟩ := hst
      obtain ⟨w', h3, h4, h5, h6⟩ := storeAt_sound hM t hx' (ev_sound he hy) hq
      obtain ⟨ds, hds⟩ := storeA_look hq
      refine ⟨fun _ _ => trivial, ?_⟩
      rw [Oper.semAt_eq _ _ _ hnd]
      have hrun : (execOp a.eval ⟨dst, .store t x y, ty, pos, after, guard⟩).run P w = .ok .skip w' := run_unit h3
      rw [hrun]
      refine hK r Go.undef w' (.undef r) h4 h5 ⟨hI.ext, Nat.le_trans hI.size h5.size, fun i cs g' hl hi => ?_, fun i cs g' hl hi hn => ?_⟩
      · rw [h6 ad g rfl hg g'.1 (hI.apart ad.block ds g hds hg hlk i cs g' hl hi), hI.stay i cs g' hl hi]
      · obtain ⟨ds', h7⟩ := h5.old i cs hl (hM.bound i g' hi)
        exact hI.apart i ds' g' h7 hi hn
    · split at h
      · rename_i u M2 hq
        cases h
        have hM1 : MR r { M with lo := 64 * M.next } w := ⟨hM.blk, hM.inj, hM.bound, fun i cs hl => ⟨hM.globlt hl, (hM.glob i cs hl).2⟩, hM.obj, hM.injO⟩
        refine opV_soundIn hN hT hself ro hq hnd he hM1 hG fun r' v' w' h1 h2 h3 => ?_
        have keep : ∀ k, k < w.heap.size → (∀ i o g, look M.ob i = some o → r i = some g → g.1 ≠ k) → w'.heap[k]? = w.heap[k]? := fun k hk hn => h3.keep k hk (fun i cs g hlo hl hi => by
          obtain ⟨g', _, _, h4, _⟩ := hM.blk i cs hl
          have := hM.bound i g' h4
          simp only at hlo
          omega) hn
        have hst : Stp r M w r' { M2 with lo := M.lo } w' := ⟨h3.ext, rfl, h3.next, h3.old, h3.os, h3.tape, h3.output, h3.size, fun k hk _ hn => keep k hk hn, fun i cs g hlo hl hi hg => by
          rcases Nat.lt_or_ge i (64 * M.next) with q | q
          · obtain ⟨ds, h5⟩ := h3.old i cs hl q
            obtain ⟨g', _, _, h6, _⟩ := hM.blk i ds h5
            have := h3.ext _ _ h6
            rw [hi] at this; cases this
            exact ⟨i, ds, _, hlo, h5, h6, rfl⟩
          · obtain ⟨j, ds, g', h5, h6, h7, _⟩ := h3.anc i cs g (by rw [h3.lo]; exact q) hl hi hg
            have := hM.bound j g' h7
            simp only at h5
            omega, h3.gl, h3.ancO⟩
        refine hK r' v' w' h1 ⟨h2.blk, h2.inj, h2.bound, fun i cs hl => ⟨(hM.glob i cs (by rw [← h3.gl]; exact hl)).1, (h2.glob i cs hl).2⟩, h2.obj, h2.injO⟩ hst ⟨fun i g hi => h3.ext _ _ (hI.ext i g hi), Nat.le_trans hI.size h3.size, fun i cs g hl hi => ?_, fun i cs g hl hi hn j ds k hj hk => ?_⟩
        · rw [keep g.1 (far i cs g hl hi) (noOb i cs g hl hi), hI.stay i cs g hl hi]
        · rcases Nat.lt_or_ge i (64 * M.next) with q | q
          · obtain ⟨es, h5⟩ := h3.old i cs hl q
            obtain ⟨g', _, _, h6, _⟩ := hM.blk i es h5
            have := h3.ext _ _ h6
            rw [hi] at this; cases this
            exact hI.apart i es _ h5 h6 hn j ds k hj hk
          · rcases Nat.lt_or_ge g.1 w.heap.size with q' | q'
            · obtain ⟨m, es, g', h5, h6, h7, _⟩ := h3.anc i cs g (by rw [h3.lo]; exact q) hl hi q'
              have := hM.bound m g' h7
              simp only at h5
              omega
            · have := far j ds k hj hk
              omega
      · cases hlo : Nat.ble M.lo (64 * M.next) with
        | false => rw [hlo] at h; cases h
        | true =>
          rw [hlo] at h
          simp only [cond_true] at h
          split at h
          case h_2 => cases h
          rename_i u M2 hq
          cases h
          have hpub : ∀ i cs, look M.gl i = some cs → pub St M.gl i = true := fun i cs hl => by
            unfold pub
            rw [hl]
            cases look St i <;> rfl
          have hM1 : MR r { M with bl := sel (pub St M.gl) M.bl } w := hM.sub (fun i cs hl => (look_sel_some hl).2) fun i cs hl => by
            rw [look_sel, hpub i cs hl]
            exact (hM.glob i cs hl).2.1
          refine opV_soundIn hN hT hself ro hq hnd he hM1 hG fun r' v' w' h1 h2 h3 => ?_
          obtain ⟨h4, h5⟩ := hide_sound hM (Nat.le_of_ble_eq_true hlo) h2 h3
          -- a block that may be written to is none of those that stay
          have wr : ∀ {i cs g}, M.lo ≤ i → look (sel (pub St M.gl) M.bl) i = some cs → r i = some g → ∀ j ds k, look St j = some ds → r0 j = some k → k.1 ≠ g.1 := fun {i cs g} hl hs hi => by
            obtain ⟨k1, k2⟩ := look_sel_some hs
            refine hI.apart i cs g k2 hi ?_
            unfold pub at k1
            cases hst : look St i with
            | none => rfl
            | some x =>
              rw [hst] at k1
              simp only at k1
              cases hgl : look M.gl i with
              | none => rw [hgl] at k1; cases k1
              | some y =>
                have := (hM.glob i y hgl).1
                omega
          refine hK r' v' w' h1 h4 h5 ⟨fun i g hi => h3.ext _ _ (hI.ext i g hi), Nat.le_trans hI.size h3.size, fun i cs g hl hi => ?_, fun i cs g hl hi hn j ds k hj hk => ?_⟩
          · rw [h3.keep g.1 (far i cs g hl hi) (fun j ds k k1 k2 k3 e => wr k1 k2 k3 i cs g hl hi e.symm) (noOb i cs g hl hi), hI.stay i cs g hl hi]
          · simp only [look_append] at hl
            cases hb : look M2.bl i with
            | none =>
              rw [hb] at hl
              obtain ⟨k1, _⟩ := look_sel_some hl
              have : pub St M.gl i = true := by unfold pub; rw [hn]
              rw [this] at k1; cases k1
            | some c =>
              rcases Nat.lt_or_ge i (64 * M.next) with q | q
              · obtain ⟨es, m1⟩ := h3.old i c hb q
                obtain ⟨m2, m3⟩ := look_sel_some m1
                obtain ⟨g', _, _, m4, _⟩ := hM.blk i es m3
                have := h3.ext _ _ m4
                rw [hi] at this; cases this
                exact hI.apart i es _ m3 m4 hn j ds k hj hk
              · rcases Nat.lt_or_ge g.1 w.heap.size with q' | q'
                · obtain ⟨m, es, g', m1, m2, m3, m4⟩ := h3.anc i c g (by rw [h3.lo]; exact Nat.le_trans (Nat.le_of_ble_eq_true hlo) q) hb hi q'
                  rw [← m4]
                  exact wr m1 m2 m3 j ds k hj hk
                · have := far j ds k hj hk
                  omega

section
variable {P : Program} {T : Tab} {self : Self} {ops : Array Oper} {St : List (Nat × List Value)} {r0 : Nat → Option (Nat × Nat)} {M0 : Mem} {w0 : World}
theorem beqE_eq {listed listed' : Array Bool} : ∀ {x y : List Ent}, (∀ e ∈ x, ops[e.i]? = some e.o) → (∀ e ∈ y, ops[e.i]? = some e.o) → beqE x y = true → x = y
  | [], [], _, _, _ => rfl
  | [], _ :: _, _, _, h => by cases h
  | _ :: _, [], _, _, h => by cases h
  | ⟨i, o, p⟩ :: r, ⟨j, o', q⟩ :: s, hx, hy, h => by
    simp only [beqE] at h
    cases h1 : Nat.beq i j with
    | false => rw [h1] at h; cases h
    | true =>
      rw [h1] at h
      cases h2 : beqN p q with
      | false => rw [h2] at h; cases h
      | true =>
        rw [h2] at h
        have e := Nat.eq_of_beq_eq_true h1
        subst e
        have k1 := hx _ List.mem_cons_self
        have k2 := hy _ List.mem_cons_self
        simp only at k1 k2
        rw [k1] at k2; cases k2
        rw [beqN_eq h2, beqE_eq (listed := listed) (listed' := listed') (fun e he => hx e (List.mem_cons_of_mem _ he)) (fun e he => hy e (List.mem_cons_of_mem _ he)) h]
def ValP (ops : Array Oper) (x : Pt) : Prop := ∀ e ∈ x.1, ops[e.i]? = some e.o
def LeP (St : List (Nat × List Value)) (r0 : Nat → Option (Nat × Nat)) (M0 : Mem) (w0 : World) (x y : Pt) : Prop := x.1 = y.1 ∧ ∀ r tmps w, SR St r0 M0 w0 x.2.1 x.2.2 r tmps w → ∃ r', SR St r0 M0 w0 y.2.1 y.2.2 r' tmps w
theorem LeP.refl (x : Pt) : LeP St r0 M0 w0 x x := ⟨rfl, fun r _ _ h => ⟨r, h⟩⟩
theorem LeP.trans {x y z : Pt} (h : LeP St r0 M0 w0 x y) (k : LeP St r0 M0 w0 y z) : LeP St r0 M0 w0 x z := ⟨h.1.trans k.1, fun r t w hs => by obtain ⟨r', h'⟩ := h.2 r t w hs; exact k.2 r' t w h'⟩
theorem addP_spec (hM0 : MR r0 M0 w0) (hSt : ∀ i cs, look St i = some cs → look M0.bl i = some cs) {rx : List Ent} {ex : Env} {Mx : Mem} (hx : ValP ops (rx, ex, Mx)) : ∀ {l l' : List Pt}, (∀ y ∈ l, ValP ops y) → addP (64 * M0.next) M0.lo M0.gl rx ex Mx l = some l' →
    (∀ z ∈ l', ValP ops z) ∧ (∀ y ∈ l, ∃ z ∈ l', LeP St r0 M0 w0 y z) ∧ ∃ z ∈ l', LeP St r0 M0 w0 (rx, ex, Mx) z
  | [], l', _, h => by
    cases h
    exact ⟨fun z hz => by rw [List.mem_singleton.1 hz]; exact hx, fun _ h => (by cases h), _, List.mem_singleton.2 rfl, .refl _⟩
  | (ry, ey, My) :: l, l', hl, h => by
    simp only [addP] at h
    cases hb : beqE ry rx with
    | true =>
      rw [hb] at h
      simp only [cond_true] at h
      split at h
      case h_2 => cases h
      rename_i C hC
      simp only [forceM_eq] at h
      cases h
      have e := beqE_eq (listed := #[]) (listed' := #[]) (hl _ List.mem_cons_self) hx hb
      simp only at e
      subst e
      unfold simE at hC
      simp only [forceL_eq] at hC
      refine ⟨fun z hz => ?_, fun y hy => ?_, _, List.mem_cons_self, rfl, fun r t w hs => ⟨_, sim_right hM0 hSt hC hs⟩⟩
      · rcases List.mem_cons.1 hz with rfl | hz
        · exact fun e he => hl (ry, ey, My) List.mem_cons_self e he
        · exact hl _ (List.mem_cons_of_mem _ hz)
      · rcases List.mem_cons.1 hy with rfl | hy
        · exact ⟨_, List.mem_cons_self, rfl, fun r t w hs => ⟨r, sim_left hC hs⟩⟩
        · exact ⟨y, List.mem_cons_of_mem _ hy, .refl _⟩
    | false =>
      rw [hb] at h
      simp only [cond_false] at h
      split at h
      case h_2 => cases h
      rename_i l2 hl2
      cases h
      obtain ⟨k1, k2, z, k3, k4⟩ := addP_spec hM0 hSt hx (fun y hy => hl y (List.mem_cons_of_mem _ hy)) hl2
      refine ⟨fun z hz => ?_, fun y hy => ?_, z, List.mem_cons_of_mem _ k3, k4⟩
      · rcases List.mem_cons.1 hz with rfl | hz
        · exact hl _ List.mem_cons_self
        · exact k1 z hz
      · rcases List.mem_cons.1 hy with rfl | hy
        · exact ⟨_, List.mem_cons_self, .refl _⟩
        · obtain ⟨z, q1, q2⟩ := k2 y hy
          exact ⟨z, List.mem_cons_of_mem _ q1, q2⟩
theorem addAll_spec (hM0 : MR r0 M0 w0) (hSt : ∀ i cs, look St i = some cs → look M0.bl i = some cs) : ∀ {xs l l' : List Pt}, (∀ x ∈ xs, ValP ops x) → (∀ y ∈ l, ValP ops y) → addAll (64 * M0.next) M0.lo M0.gl xs l = some l' →
    (∀ z ∈ l', ValP ops z) ∧ (∀ y ∈ l, ∃ z ∈ l', LeP St r0 M0 w0 y z) ∧ ∀ x ∈ xs, ∃ z ∈ l', LeP St r0 M0 w0 x z
  | [], l, l', _, hl, h => by cases h; exact ⟨hl, fun y hy => ⟨y, hy, .refl _⟩, fun _ h => (by cases h)⟩
  | (rx, ex, Mx) :: xs, l, l', hx, hl, h => by
    simp only [addAll] at h
    split at h
    case h_2 => cases h
    rename_i l1 h1
    obtain ⟨k1, k2, z0, k3, k4⟩ := addP_spec hM0 hSt (hx _ List.mem_cons_self) hl h1
    obtain ⟨m1, m2, m3⟩ := addAll_spec hM0 hSt (fun x q => hx x (List.mem_cons_of_mem _ q)) k1 h
    refine ⟨m1, fun y hy => ?_, fun x q => ?_⟩
    · obtain ⟨z, q1, q2⟩ := k2 y hy
      obtain ⟨z', q3, q4⟩ := m2 z q1
      exact ⟨z', q3, q2.trans q4⟩
    · rcases List.mem_cons.1 q with rfl | q
      · obtain ⟨z', q3, q4⟩ := m2 z0 k3
        exact ⟨z', q3, k4.trans q4⟩
      · exact m3 x q
theorem ValP.next {rem : List Ent} {env env' : Env} {M M' : Mem} (h : ValP ops (rem, env, M)) (i : Nat) : ValP ops (next i rem, env', M') := fun e he => by
  obtain ⟨e0, h1, _, rfl⟩ := mem_next.1 he
  exact h e0 h1
theorem eachP_spec {rem : List Ent} {env : Env} {M : Mem} : ∀ {rs : List (Nat × Oper)} {ys : List Pt}, eachP P T self ops St rem env M rs = some ys →
    (∀ i o, (i, o) ∈ rs → ∃ env' M', bestE P T self ops St env M o = some (env', M') ∧ (next i rem, env', M') ∈ ys) ∧ (ValP ops (rem, env, M) → ∀ y ∈ ys, ValP ops y)
  | [], ys, h => by cases h; exact ⟨fun _ _ h => (by cases h), fun _ _ h => (by cases h)⟩
  | (i, o) :: rs, ys, h => by
    simp only [eachP] at h
    split at h
    case h_2 => cases h
    rename_i env1 M1 h1
    split at h
    case h_2 => cases h
    rename_i ys1 h2
    cases h
    obtain ⟨k1, k2⟩ := eachP_spec h2
    refine ⟨fun j o' hj => ?_, fun hv y hy => ?_⟩
    · rcases List.mem_cons.1 hj with hj | hj
      · cases hj; exact ⟨env1, M1, h1, List.mem_cons_self⟩
      · obtain ⟨e, m, q1, q2⟩ := k1 j o' hj
        exact ⟨e, m, q1, List.mem_cons_of_mem _ q2⟩
    · rcases List.mem_cons.1 hy with rfl | hy
      · exact hv.next i
      · exact k2 hv y hy
theorem succ_valid {rem : List Ent} {env : Env} {M : Mem} {ys : List Pt} (h : succE P T self ops St rem env M = some ys) (hv : ValP ops (rem, env, M)) : ∀ y ∈ ys, ValP ops y := by
  unfold succE at h
  split at h
  · simp only [forceD_eq, putK_eq] at h
    cases h
    intro y hy
    rw [List.mem_singleton.1 hy]
    exact hv.next _
  · split at h
    · cases h
    · exact (eachP_spec h).2 hv
theorem stepF_spec (hM0 : MR r0 M0 w0) (hSt : ∀ i cs, look St i = some cs → look M0.bl i = some cs) : ∀ {F acc F' : List Pt}, (∀ x ∈ F, ValP ops x) → (∀ y ∈ acc, ValP ops y) → stepF P T self ops St (64 * M0.next) M0.lo M0.gl F acc = some F' →
    (∀ z ∈ F', ValP ops z) ∧ (∀ y ∈ acc, ∃ z ∈ F', LeP St r0 M0 w0 y z) ∧ ∀ x ∈ F, ∃ ys, succE P T self ops St x.1 x.2.1 x.2.2 = some ys ∧ ∀ y ∈ ys, ∃ z ∈ F', LeP St r0 M0 w0 y z
  | [], acc, F', _, ha, h => by cases h; exact ⟨ha, fun y hy => ⟨y, hy, .refl _⟩, fun _ h => (by cases h)⟩
  | (rem, env, M) :: F, acc, F', hF, ha, h => by
    simp only [stepF] at h
    split at h
    case h_2 => cases h
    rename_i ys h1
    split at h
    case h_2 => cases h
    rename_i acc1 h2
    obtain ⟨k1, k2, k3⟩ := addAll_spec hM0 hSt (succ_valid h1 (hF _ List.mem_cons_self)) ha h2
    obtain ⟨m1, m2, m3⟩ := stepF_spec hM0 hSt (fun x q => hF x (List.mem_cons_of_mem _ q)) k1 h
    have on : ∀ y, (∃ z ∈ acc1, LeP St r0 M0 w0 y z) → ∃ z ∈ F', LeP St r0 M0 w0 y z := fun y ⟨z, q1, q2⟩ => by
      obtain ⟨z', q3, q4⟩ := m2 z q1
      exact ⟨z', q3, q2.trans q4⟩
    refine ⟨m1, fun y hy => on y (k2 y hy), fun x q => ?_⟩
    rcases List.mem_cons.1 q with rfl | q
    · exact ⟨ys, h1, fun y hy => on y (k3 y hy)⟩
    · exact m3 x q
end

/-- What is said of where the levels end. -/
def LvOk (P : Program) (ro : Option Nat) (ops : Array Oper) (Q : Exit → Act → World → Prop) (St : List (Nat × List Value)) (r0 : Nat → Option (Nat × Nat)) (M0 : Mem) (w0 : World) (D : List Deferred) : Lv → Prop
  | .fin e M => ∀ r' a' w', SR St r0 M0 w0 e M r' a'.tmps w' → a'.defers = D → Q .normal a' w'
  | .stop n rem e M => ∀ (listed : Array Bool) r' a' w', RemOk ops listed rem → SR St r0 M0 w0 e M r' a'.tmps w' → a'.defers = D → Stay St r0 w0 w' → anyS P ro ops Q (Stay St r0 w0) n listed a' w'
theorem lev_sound {P : Program} (hN : noRoutines P) {G : List (Nat × List Value)} {T : Tab} (hT : TOk P G T) {self : Self} (hself : SelfOk P G self) {ops : Array Oper} {St : List (Nat × List Value)} {r0 : Nat → Option (Nat × Nat)} {M0 : Mem} {w0 : World} (hsel : Region.noSelect ops = true) (hnd : NoDef ops) (ro : Option Nat)
    (hM0 : MR r0 M0 w0) (hG : M0.gl = G) (hSt : ∀ i cs, look St i = some cs → look M0.bl i = some cs) {Q : Exit → Act → World → Prop} (hp : ∀ (i : Nat) (oi : Oper) (v : Value), ops[i]? = some oi → ∀ c a w, Q (.panic c) (a.put oi.dst v) w → Q (.panic c) a w) {D : List Deferred} {L : Lv}
    (hQ : LvOk P ro ops Q St r0 M0 w0 D L) : ∀ (n : Nat) {F : List Pt}, levE P T self ops St (64 * M0.next) M0.lo M0.gl n F = some L → (∀ x ∈ F, ValP ops x) →
    ∀ x ∈ F, ∀ (listed : Array Bool) (r : Nat → Option (Nat × Nat)) (a : Act) (w : World), RemOk ops listed x.1 → a.defers = D → SR St r0 M0 w0 x.2.1 x.2.2 r a.tmps w → Stay St r0 w0 w → anyS P ro ops Q (Stay St r0 w0) n listed a w := by
  have fin : ∀ {F : List Pt}, doneE F = some L → ∀ x ∈ F, ∀ (n : Nat) (listed : Array Bool) (r : Nat → Option (Nat × Nat)) (a : Act) (w : World), RemOk ops listed x.1 → a.defers = D → SR St r0 M0 w0 x.2.1 x.2.2 r a.tmps w → anyS P ro ops Q (Stay St r0 w0) n listed a w := by
    intro F h x hx n listed r a w hR hd hs
    unfold doneE at h
    split at h
    case h_2 => cases h
    split at h
    case h_2 => cases h
    rename_i hr
    cases h
    rw [List.mem_singleton.1 hx] at hR hs
    exact anyS_end (hR.done hr) (hQ r a w hs hd) n
  intro n
  induction n with
  | zero => exact fun h _ x hx listed r a w hR hd hs _ => fin h x hx 0 listed r a w hR hd hs
  | succ n ih =>
    intro F h hF x hx listed r a w hR hd hs hst
    simp only [levE] at h
    split at h
    · rename_i y hy
      cases h
      exact fin hy x hx _ listed r a w hR hd hs
    · split at h
      case h_2 =>
        unfold stopE at h
        split at h
        case h_2 => cases h
        cases h
        rw [List.mem_singleton.1 hx] at hR hs
        exact hQ listed r a w hR hs hd hst
      rename_i F' hF'
      obtain ⟨k1, _, k3⟩ := stepF_spec hM0 hSt hF (fun _ h => (by cases h)) hF'
      obtain ⟨ys, hsucc, hys⟩ := k3 x hx
      obtain ⟨rem, env, M⟩ := x
      simp only at hR hs hsucc
      -- whatever comes next is one of those
      have go : ∀ y ∈ ys, ∀ (listed : Array Bool) (r : Nat → Option (Nat × Nat)) (a : Act) (w : World), RemOk ops listed y.1 → a.defers = D → SR St r0 M0 w0 y.2.1 y.2.2 r a.tmps w → Stay St r0 w0 w → anyS P ro ops Q (Stay St r0 w0) n listed a w := fun y hy listed r a w q1 q2 q3 q4 => by
        obtain ⟨z, hz, e, hle⟩ := hys y hy
        obtain ⟨r', q5⟩ := hle r a.tmps w q3
        exact ih h k1 z hz listed r' a w (by rw [← e]; exact q1) q2 q5 q4
      have hgl : M.gl = G := hs.stp.gl.trans hG
      have hM0' : MR r0 { M0 with bl := St, gl := [], ob := [] } w0 := hM0.fewer hSt
      have hI : Inv r0 M0 w0 St r M w := ⟨hs.stp.ext, hs.stp.size, hst, hs.apart⟩
      unfold succE at hsucc
      split at hsucc
      · rename_i i d v ht
        simp only [forceD_eq, putK_eq] at hsucc
        cases hsucc
        obtain ⟨o, v', h1, h2, h4, h5⟩ := takeE_sound hs.er hs.stp.ext hM0' ht
        subst h2
        obtain ⟨q1, q2⟩ := mem_cands h1
        obtain ⟨m1, m2, _⟩ := hR.mem _ q1
        refine anyS_take hnd m1 hsel (hR.free q1 q2) (hR.ready.2 ⟨o, mem_readyL.2 q1⟩) (hp i o v' m1) h5 hst ?_
        exact go _ (List.mem_singleton.2 rfl) _ r _ w (hR.next m2) (by rw [put_defers]; exact hd) ⟨putA_rel hs.er o.dst h4, hs.mr, hs.stp, hs.apart⟩ hst
      · split at hsucc
        · cases hsucc
        rename_i r1 rs hr
        refine ⟨fun e => ?_, fun i hi => ?_⟩
        · obtain ⟨j, o⟩ := r1
          have : j ∈ Region.ready .any ops listed := hR.ready.2 ⟨o, by rw [hr]; exact List.mem_cons_self⟩
          rw [e] at this
          cases this
        obtain ⟨o, hio⟩ := hR.ready.1 hi
        obtain ⟨env1, M1, hb, hmem⟩ := (eachP_spec hsucc).1 i o (by rw [← hr]; exact hio)
        obtain ⟨ho, hlist, _⟩ := hR.mem _ (mem_readyL.1 hio)
        simp only at ho hlist
        unfold bestE at hb
        unfold wpOpIn
        simp only [ho]
        rw [wantedA_eq ops hs.er o]
        cases hw : wantedA ops env o with
        | false =>
          rw [hw] at hb
          simp only [cond_false, putK_eq] at hb
          cases hb
          rw [if_neg (by simp)]
          exact ⟨fun _ _ => trivial, hst, go _ hmem _ r _ w (hR.next hlist) (by rw [put_defers]; exact hd) ⟨putA_rel hs.er o.dst (.undef r), hs.mr, hs.stp, hs.apart⟩ hst⟩
        | true =>
          rw [hw] at hb
          simp only [cond_true] at hb
          rw [if_pos rfl]
          split at hb
          case h_2 => cases hb
          rename_i v M2 hstep
          simp only [forceD_eq, forceM_eq, putK_eq] at hb
          cases hb
          refine step_sound hN hT hself hstep hs.er hs.mr hM0 hSt hI hgl ro (hnd.at ho) fun r' v' w' h2 h3 h4 h5 => ⟨h5.stay, ?_⟩
          exact go _ hmem _ r' _ w' (hR.next hlist) (by rw [put_defers]; exact hd) ⟨putA_rel (hs.er.mono h4.ext) o.dst h2, h3, hs.stp.trans h4, h5.apart⟩ h5.stay
end Ev
end Go.Proofs.YtccjmmdppjialaaGreatDoor
