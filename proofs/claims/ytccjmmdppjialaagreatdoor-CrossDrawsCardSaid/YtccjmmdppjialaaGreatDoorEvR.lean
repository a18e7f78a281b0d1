/- The evaluator, R: a known call wherever its blocks lie: blocks renamed; one operation, a call or not. -/
import Derived.Test.YtccjmmdppjialaaGreatDoorEvI3
namespace Go.Proofs.YtccjmmdppjialaaGreatDoor
open Go.RowKit
namespace Ev

abbrev Sg := List (Nat × Nat)
/-- The name that a block of a known call has here. -/
def renJ (σ : Sg) (n0 n c : Nat) : Option Nat := match look σ c with
  | some a => some a
  | none => bif Nat.ble (64 * n0) c then some (c - 64 * n0 + 64 * n) else none
def renI (σ : Sg) (G : List (Nat × List Value)) (n0 n c : Nat) : Option Nat := match look G c with
  | some _ => some c
  | none => renJ σ n0 n c
def sameI (σ : Sg) (G : List (Nat × List Value)) (c a : Nat) : Bool := match look G c with
  | some _ => Nat.beq c a
  | none => match look σ c with
    | some b => Nat.beq b a
    | none => false
def sameA (σ : Sg) (G : List (Nat × List Value)) : Option Addr → Option Addr → Bool
  | some ⟨b, o, none⟩, some ⟨b', o', none⟩ => Nat.beq o o' && sameI σ G b b'
  | _, _ => false
def sameM (σ : Sg) (G : List (Nat × List Value)) : Option Nat → Option Nat → Bool
  | some i, some j => sameI σ G i j
  | _, _ => false
/-- A value of the known call, held against one that is here. -/
def sameV (σ : Sg) (G : List (Nat × List Value)) : Nat → Value → Value → Bool
  | 0, _, _ => false
  | n + 1, v, u => bif af 4 v then beqV 6 v u else match v with
    | .pointer a => (match u with
      | .pointer b => sameA σ G a b
      | _ => false)
    | .slice a l c => (match u with
      | .slice b k d => (Nat.beq l k && Nat.beq c d) && sameA σ G a b
      | _ => false)
    | .map i => (match u with
      | .map j => sameM σ G i j
      | _ => false)
    | .agg xs => (match u with
      | .agg ys => beqL (sameV σ G n) xs.toList ys.toList
      | _ => false)
    | .tuple xs => (match u with
      | .tuple ys => beqL (sameV σ G n) xs.toList ys.toList
      | _ => false)
    | .func f xs us => (match u with
      | .func g ys vs => (!(isYield f) && decide (f = g)) && (beqL (sameV σ G n) xs.toList ys.toList && beqL (sameV σ G n) us.toList vs.toList)
      | _ => false)
    | .iface t x => (match u with
      | .iface t' y => Nat.beq t t' && sameV σ G n x y
      | _ => false)
    | _ => false
theorem beqL_at {p : Value → Value → Bool} : ∀ {xs ys : List Value}, beqL p xs ys = true → xs.length = ys.length ∧ ∀ (i : Nat) x, xs[i]? = some x → ∃ y, ys[i]? = some y ∧ p x y = true
  | [], [], _ => ⟨rfl, fun i x h => by simp at h⟩
  | [], _ :: _, h => by cases h
  | _ :: _, [], h => by cases h
  | x :: xs, y :: ys, h => by
    simp only [beqL, Bool.and_eq_true] at h
    obtain ⟨h1, h2⟩ := beqL_at h.2
    refine ⟨by simp [h1], fun i u hu => ?_⟩
    cases i with
    | zero => simp only [List.getElem?_cons_zero] at hu ⊢; cases hu; exact ⟨y, rfl, h.1⟩
    | succ i => simp only [List.getElem?_cons_succ] at hu ⊢; exact h2 i u hu
/-- What the names here lead to, by the known call's names. -/
def viaR (ρ : Nat → Option Nat) (r : Nat → Option (Nat × Nat)) : Nat → Option (Nat × Nat) := fun c => match ρ c with
  | some a => r a
  | none => none
theorem viaR_some {ρ : Nat → Option Nat} {r : Nat → Option (Nat × Nat)} {c : Nat} {g : Nat × Nat} (h : viaR ρ r c = some g) : ∃ a, ρ c = some a ∧ r a = some g := by
  unfold viaR at h
  split at h
  · rename_i a ha; exact ⟨a, ha, h⟩
  · cases h
theorem viaR_of {ρ : Nat → Option Nat} {r : Nat → Option (Nat × Nat)} {c a : Nat} {g : Nat × Nat} (h : ρ c = some a) (hr : r a = some g) : viaR ρ r c = some g := by
  unfold viaR; rw [h]; exact hr
theorem sameI_ren {σ : Sg} {G : List (Nat × List Value)} {n0 n c a : Nat} (h : sameI σ G c a = true) : renI σ G n0 n c = some a := by
  unfold sameI at h
  unfold renI renJ
  split at h
  · rw [Nat.eq_of_beq_eq_true h]
  · split at h
    · rw [Nat.eq_of_beq_eq_true h]
    · cases h
theorem sameA_ren {σ : Sg} {G : List (Nat × List Value)} {n0 n : Nat} {a b : Option Addr} (h : sameA σ G a b = true) : ∃ c o d, a = some ⟨c, o, none⟩ ∧ b = some ⟨d, o, none⟩ ∧ renI σ G n0 n c = some d := by
  unfold sameA at h
  split at h
  · simp only [Bool.and_eq_true] at h
    exact ⟨_, _, _, rfl, by rw [Nat.eq_of_beq_eq_true h.1], sameI_ren h.2⟩
  · cases h
theorem sameL_rel {ρ : Nat → Option Nat} {p : Value → Value → Bool} {r : Nat → Option (Nat × Nat)} (hp : ∀ v u y, p v u = true → VR r u y → VR (viaR ρ r) v y) {xs ys zs : List Value} (h : beqL p xs ys = true) (hr : LR r ys zs) : LR (viaR ρ r) xs zs := by
  obtain ⟨h1, h2⟩ := beqL_at h
  refine ⟨h1.trans hr.1, fun i x z hx hz => ?_⟩
  obtain ⟨y, hy, hxy⟩ := h2 i x hx
  exact hp x y z hxy (hr.2 i y z hy hz)
theorem sameV_rel {σ : Sg} {G : List (Nat × List Value)} {n0 n : Nat} {r : Nat → Option (Nat × Nat)} (hm : ∀ c a, renI σ G n0 n c = some a → a % 64 = c % 64) : ∀ (k : Nat) (v u y : Value), sameV σ G k v u = true → VR r u y → VR (viaR (renI σ G n0 n) r) v y
  | 0, _, _, _, h, _ => by cases h
  | k + 1, v, u, y, h, hu => by
    have ih := fun v u y => sameV_rel (σ := σ) (G := G) (n0 := n0) (n := n) (r := r) hm k v u y
    unfold sameV at h
    cases ha : af 4 v with
    | true =>
      rw [ha] at h
      have e := beqV_eq 6 _ _ h
      subst e
      rw [hu.eq ha]
      exact .same 4 _ ha
    | false =>
      rw [ha] at h
      simp only [cond_false] at h
      split at h
      · split at h
        · obtain ⟨c, o, d, rfl, rfl, hd⟩ := sameA_ren (n0 := n0) (n := n) h
          obtain ⟨_, g, hg, rfl⟩ := hu.of_ptr
          exact .ptr c o g (viaR_of hd hg)
        · cases h
      · split at h
        · simp only [Bool.and_eq_true] at h
          obtain ⟨⟨h1, h2⟩, h3⟩ := h
          obtain ⟨c, o, d, rfl, rfl, hd⟩ := sameA_ren (n0 := n0) (n := n) h3
          cases Nat.eq_of_beq_eq_true h1
          cases Nat.eq_of_beq_eq_true h2
          obtain ⟨_, g, c', hg, hc, ht, rfl⟩ := hu.of_slice
          exact .slice c o _ _ c' g (viaR_of hd hg) hc (by rw [← hm c d hd]; exact ht)
        · cases h
      · split at h
        · unfold sameM at h
          split at h
          · obtain ⟨g, hg, rfl⟩ := hu.of_map
            exact .map _ g (viaR_of (sameI_ren h) hg)
          · cases h
        · cases h
      · split at h
        · obtain ⟨zs, rfl, hz⟩ := hu.of_agg
          have := VR.agg' (sameL_rel ih h hz)
          simpa using this
        · cases h
      · split at h
        · obtain ⟨zs, rfl, hz⟩ := hu.of_tuple
          have := VR.tuple' (sameL_rel ih h hz)
          simpa using this
        · cases h
      · split at h
        · simp only [Bool.and_eq_true, Bool.not_eq_true', decide_eq_true_eq] at h
          obtain ⟨⟨hy, rfl⟩, h1, h2⟩ := h
          obtain ⟨zs, us, rfl, hz1, hz2⟩ := hu.of_func hy
          have := VR.func' _ hy (sameL_rel ih h1 hz1) (sameL_rel ih h2 hz2)
          simpa using this
        · cases h
      · split at h
        · simp only [Bool.and_eq_true] at h
          cases Nat.eq_of_beq_eq_true h.1
          obtain ⟨z, rfl, hz⟩ := hu.of_iface
          exact .iface _ _ _ (ih _ _ _ h.2 hz)
        · cases h
      · cases h

/-! ### What comes back, by the names that are here. -/
def renA (ρ : Nat → Option Nat) (a : Option Addr) : Option (Option Addr) := match a with
  | some ⟨b, o, none⟩ => (match ρ b with
    | some b => some (some ⟨b, o, none⟩)
    | none => none)
  | _ => none
def renL (f : Value → Option Value) : List Value → Option (List Value)
  | [] => some []
  | x :: xs => match f x with
    | some y => (match renL f xs with
      | some ys => some (y :: ys)
      | none => none)
    | none => none
def renV (ρ : Nat → Option Nat) : Nat → Value → Option Value
  | 0, _ => none
  | n + 1, v => bif af 4 v then some v else match v with
    | .pointer a => (match renA ρ a with
      | some a => some (.pointer a)
      | none => none)
    | .slice a l c => (match renA ρ a with
      | some a => some (.slice a l c)
      | none => none)
    | .map i => (match i with
      | some i => (match ρ i with
        | some i => some (.map (some i))
        | none => none)
      | none => none)
    | .agg xs => (match renL (renV ρ n) xs.toList with
      | some xs => some (.agg ⟨xs⟩)
      | none => none)
    | .tuple xs => (match renL (renV ρ n) xs.toList with
      | some xs => some (.tuple ⟨xs⟩)
      | none => none)
    | .func f xs us => bif isYield f then none else (match renL (renV ρ n) xs.toList with
      | some xs => (match renL (renV ρ n) us.toList with
        | some us => some (.func f ⟨xs⟩ ⟨us⟩)
        | none => none)
      | none => none)
    | .iface t x => (match renV ρ n x with
      | some x => some (.iface t x)
      | none => none)
    | .chan c => some (.chan c)
    | _ => none
theorem renL_at {f : Value → Option Value} : ∀ {xs ys : List Value}, renL f xs = some ys → xs.length = ys.length ∧ ∀ (i : Nat) y, ys[i]? = some y → ∃ x, xs[i]? = some x ∧ f x = some y
  | [], ys, h => by cases h; exact ⟨rfl, fun i y h => by simp at h⟩
  | x :: xs, ys, h => by
    unfold renL at h
    split at h
    · rename_i y hy
      split at h
      · rename_i ys' hys
        cases h
        obtain ⟨h1, h2⟩ := renL_at hys
        refine ⟨by simp [h1], fun i u hu => ?_⟩
        cases i with
        | zero => simp only [List.getElem?_cons_zero] at hu ⊢; cases hu; exact ⟨x, rfl, hy⟩
        | succ i => simp only [List.getElem?_cons_succ] at hu ⊢; exact h2 i u hu
      · cases h
    · cases h
theorem renL_rel {f : Value → Option Value} {r r' : Nat → Option (Nat × Nat)} (hf : ∀ v u y, f v = some u → VR r' v y → VR r u y) {xs ys zs : List Value} (h : renL f xs = some ys) (hr : LR r' xs zs) : LR r ys zs := by
  obtain ⟨h1, h2⟩ := renL_at h
  refine ⟨h1.symm.trans hr.1, fun i y z hy hz => ?_⟩
  obtain ⟨x, hx, hxy⟩ := h2 i y hy
  exact hf x y z hxy (hr.2 i x z hx hz)
theorem renA_some {ρ : Nat → Option Nat} {a b : Option Addr} (h : renA ρ a = some b) : ∃ c o d, a = some ⟨c, o, none⟩ ∧ b = some ⟨d, o, none⟩ ∧ ρ c = some d := by
  unfold renA at h
  split at h
  · split at h
    · cases h; rename_i hd; exact ⟨_, _, _, rfl, rfl, hd⟩
    · cases h
  · cases h
theorem renV_rel {ρ : Nat → Option Nat} {r r' : Nat → Option (Nat × Nat)} (hm : ∀ c a, ρ c = some a → a % 64 = c % 64) (hr : ∀ c a g, ρ c = some a → r' c = some g → r a = some g) : ∀ (k : Nat) (v u y : Value), renV ρ k v = some u → VR r' v y → VR r u y
  | 0, _, _, _, h, _ => by cases h
  | k + 1, v, u, y, h, hv => by
    have ih := fun v u y => renV_rel (ρ := ρ) (r := r) (r' := r') hm hr k v u y
    unfold renV at h
    cases ha : af 4 v with
    | true =>
      rw [ha] at h
      cases h
      rw [hv.eq ha]
      exact .same 4 _ ha
    | false =>
      rw [ha] at h
      simp only [cond_false] at h
      split at h
      · split at h
        · rename_i hA
          cases h
          obtain ⟨c, o, d, rfl, rfl, hd⟩ := renA_some hA
          obtain ⟨_, g, hg, rfl⟩ := hv.of_ptr
          exact .ptr d o g (hr _ _ _ hd hg)
        · cases h
      · split at h
        · rename_i hA
          cases h
          obtain ⟨c, o, d, rfl, rfl, hd⟩ := renA_some hA
          obtain ⟨_, g, c', hg, hc, ht, rfl⟩ := hv.of_slice
          exact .slice d o _ _ c' g (hr _ _ _ hd hg) hc (by rw [hm c d hd]; exact ht)
        · cases h
      · split at h
        · split at h
          · rename_i hd
            cases h
            obtain ⟨g, hg, rfl⟩ := hv.of_map
            exact .map _ g (hr _ _ _ hd hg)
          · cases h
        · cases h
      · split at h
        · rename_i hL
          cases h
          obtain ⟨zs, rfl, hz⟩ := hv.of_agg
          have := VR.agg' (renL_rel ih hL hz)
          simpa using this
        · cases h
      · split at h
        · rename_i hL
          cases h
          obtain ⟨zs, rfl, hz⟩ := hv.of_tuple
          have := VR.tuple' (renL_rel ih hL hz)
          simpa using this
        · cases h
      · rename_i f xs us
        cases hy : isYield f with
        | true => rw [hy] at h; cases h
        | false =>
          rw [hy] at h
          simp only [cond_false] at h
          split at h
          · rename_i hL
            split at h
            · rename_i hL2
              cases h
              obtain ⟨zs, vs, rfl, hz1, hz2⟩ := hv.of_func hy
              have := VR.func' _ hy (renL_rel ih hL hz1) (renL_rel ih hL2 hz2)
              simpa using this
            · cases h
          · cases h
      · split at h
        · rename_i hL
          cases h
          obtain ⟨z, rfl, hz⟩ := hv.of_iface
          exact .iface _ _ _ (ih _ _ _ hL hz)
        · cases h
      · cases h
        obtain ⟨rfl, a, c, rfl⟩ := hv.of_empty
        exact .empty a c
      · cases h

/-! ### Blocks and maps. -/
def renLK {β : Type} (ρ : Nat → Option Nat) : List Value → (List Value → Option β) → Option β
  | [], k => k []
  | x :: xs, k => match renV ρ 4 x with
    | some y => forceD 4 y fun y => renLK ρ xs fun ys => k (y :: ys)
    | none => none
theorem renLK_some {β : Type} {ρ : Nat → Option Nat} {c : β} : ∀ {l : List Value} {k : List Value → Option β}, renLK ρ l k = some c → ∃ m, renL (renV ρ 4) l = some m ∧ k m = some c
  | [], k, h => ⟨[], rfl, h⟩
  | x :: xs, k, h => by
    unfold renLK at h
    split at h
    · rename_i y hy
      rw [forceD_eq] at h
      obtain ⟨m, h1, h2⟩ := renLK_some h
      exact ⟨y :: m, by simp only [renL, hy, h1], h2⟩
    · cases h
def renB (ρ σ : Nat → Option Nat) : List (Nat × List Value) → Option (List (Nat × List Value))
  | [] => some []
  | p :: l => match σ p.1 with
    | some a => (match renL (renV ρ 4) p.2 with
      | some cs => (match renB ρ σ l with
        | some l => some ((a, cs) :: l)
        | none => none)
      | none => none)
    | none => none
def renBK {β : Type} (ρ σ : Nat → Option Nat) : List (Nat × List Value) → (List (Nat × List Value) → Option β) → Option β
  | [], k => k []
  | p :: l, k => match σ p.1 with
    | some a => forceN a fun a => renLK ρ p.2 fun cs => renBK ρ σ l fun l => k ((a, cs) :: l)
    | none => none
theorem renBK_some {β : Type} {ρ σ : Nat → Option Nat} {c : β} : ∀ {l : List (Nat × List Value)} {k : List (Nat × List Value) → Option β}, renBK ρ σ l k = some c → ∃ m, renB ρ σ l = some m ∧ k m = some c
  | [], k, h => ⟨[], rfl, h⟩
  | p :: l, k, h => by
    unfold renBK at h
    split at h
    · rename_i a ha
      rw [forceN_eq] at h
      obtain ⟨cs, h1, h2⟩ := renLK_some h
      obtain ⟨m, h3, h4⟩ := renBK_some h2
      exact ⟨(a, cs) :: m, by simp only [renB, ha, h1, h3], h4⟩
    · cases h
theorem renB_look {ρ σ : Nat → Option Nat} : ∀ {l m : List (Nat × List Value)} {i : Nat} {cs : List Value}, renB ρ σ l = some m → look m i = some cs → ∃ c ds, σ c = some i ∧ look l c = some ds ∧ renL (renV ρ 4) ds = some cs
  | [], m, i, cs, h, hl => by cases h; cases hl
  | (c, ds) :: l, m, i, cs, h, hl => by
    unfold renB at h
    split at h
    case h_2 => cases h
    rename_i a ha
    split at h
    case h_2 => cases h
    rename_i es hes
    split at h
    case h_2 => cases h
    rename_i m' hm'
    cases h
    rw [look_cons] at hl
    split at hl
    · rename_i e
      subst e
      cases hl
      exact ⟨c, ds, ha, by rw [look_cons, if_pos rfl], hes⟩
    · rename_i e
      obtain ⟨c', ds', h1, h2, h3⟩ := renB_look hm' hl
      have : c ≠ c' := fun e' => by
        subst e'
        have ha' : σ c = some a := ha
        rw [ha'] at h1; cases h1; exact e rfl
      exact ⟨c', ds', h1, by rw [look_cons, if_neg this]; exact h2, h3⟩
def renE (ρ : Nat → Option Nat) : List (Value × Value) → Option (List (Value × Value))
  | [] => some []
  | p :: l => match renV ρ 4 p.2 with
    | some v => (match renE ρ l with
      | some l => some ((p.1, v) :: l)
      | none => none)
    | none => none
def renEK {β : Type} (ρ : Nat → Option Nat) : List (Value × Value) → (List (Value × Value) → Option β) → Option β
  | [], k => k []
  | p :: l, k => match renV ρ 4 p.2 with
    | some v => forceD 4 v fun v => renEK ρ l fun l => k ((p.1, v) :: l)
    | none => none
theorem renEK_some {β : Type} {ρ : Nat → Option Nat} {c : β} : ∀ {l : List (Value × Value)} {k : List (Value × Value) → Option β}, renEK ρ l k = some c → ∃ m, renE ρ l = some m ∧ k m = some c
  | [], k, h => ⟨[], rfl, h⟩
  | p :: l, k, h => by
    unfold renEK at h
    split at h
    · rename_i v hv
      rw [forceD_eq] at h
      obtain ⟨m, h1, h2⟩ := renEK_some h
      exact ⟨(p.1, v) :: m, by simp only [renE, hv, h1], h2⟩
    · cases h
def renO (ρ σ : Nat → Option Nat) : List (Nat × AOb) → Option (List (Nat × AOb))
  | [] => some []
  | p :: l => match p.2 with
    | .map es => (match σ p.1 with
      | some a => (match renE ρ es with
        | some es => (match renO ρ σ l with
          | some l => some ((a, .map es) :: l)
          | none => none)
        | none => none)
      | none => none)
    | _ => none
def renOK {β : Type} (ρ σ : Nat → Option Nat) : List (Nat × AOb) → (List (Nat × AOb) → Option β) → Option β
  | [], k => k []
  | p :: l, k => match p.2 with
    | .map es => (match σ p.1 with
      | some a => forceN a fun a => renEK ρ es fun es => renOK ρ σ l fun l => k ((a, .map es) :: l)
      | none => none)
    | _ => none
theorem renOK_some {β : Type} {ρ σ : Nat → Option Nat} {c : β} : ∀ {l : List (Nat × AOb)} {k : List (Nat × AOb) → Option β}, renOK ρ σ l k = some c → ∃ m, renO ρ σ l = some m ∧ k m = some c
  | [], k, h => ⟨[], rfl, h⟩
  | (i, o) :: l, k, h => by
    cases o with
    | map es =>
      simp only [renOK] at h
      split at h
      · rename_i a ha
        rw [forceN_eq] at h
        obtain ⟨es', h1, h2⟩ := renEK_some h
        obtain ⟨m, h3, h4⟩ := renOK_some h2
        exact ⟨(a, .map es') :: m, by simp only [renO, ha, h1, h3], h4⟩
      · cases h
    | _ => simp only [renOK] at h; cases h
theorem renO_look {ρ σ : Nat → Option Nat} : ∀ {l m : List (Nat × AOb)} {i : Nat} {o : AOb}, renO ρ σ l = some m → look m i = some o → ∃ c es fs, σ c = some i ∧ look l c = some (.map es) ∧ renE ρ es = some fs ∧ o = .map fs
  | [], m, i, cs, h, hl => by cases h; cases hl
  | (c, o') :: l, m, i, o, h, hl => by
    cases o' with
    | map es =>
      simp only [renO] at h
      split at h
      case h_2 => cases h
      rename_i a ha
      split at h
      case h_2 => cases h
      rename_i fs hfs
      split at h
      case h_2 => cases h
      rename_i m' hm'
      cases h
      rw [look_cons] at hl
      split at hl
      · rename_i e
        subst e
        cases hl
        exact ⟨c, es, fs, ha, by rw [look_cons, if_pos rfl], hfs, rfl⟩
      · rename_i e
        obtain ⟨c', es', fs', h1, h2, h3, h4⟩ := renO_look hm' hl
        have : c ≠ c' := fun e' => by
          subst e'
          rw [ha] at h1; cases h1; exact e rfl
        exact ⟨c', es', fs', h1, by rw [look_cons, if_neg this]; exact h2, h3, h4⟩
    | _ => simp only [renO] at h; cases h
theorem renE_rel {ρ : Nat → Option Nat} {r r' : Nat → Option (Nat × Nat)} (hf : ∀ v u y, renV ρ 4 v = some u → VR r' v y → VR r u y) : ∀ {es fs : List (Value × Value)} {l : List MapEntry}, renE ρ es = some fs → EntsR r' es l → EntsR r fs l
  | [], fs, [], h, _ => by cases h; trivial
  | [], fs, _ :: _, _, hr => hr.elim
  | p :: es, fs, [], h, hr => hr.elim
  | p :: es, fs, e :: l, h, hr => by
    unfold renE at h
    split at h
    case h_2 => cases h
    rename_i v hv
    split at h
    case h_2 => cases h
    rename_i fs' hfs
    cases h
    exact ⟨⟨hr.1.1, hf _ _ _ hv hr.1.2⟩, renE_rel hf hfs hr.2⟩
/-! ### The known call's memory, held against what is here. -/
def fitB (σ : Sg) (G bl : List (Nat × List Value)) : List (Nat × List Value) → Bool
  | [] => true
  | p :: l => match look σ p.1 with
    | some a => (match look bl a with
      | some ds => beqL (sameV σ G 4) p.2 ds && fitB σ G bl l
      | none => false)
    | none => false
theorem fitB_look {σ : Sg} {G bl : List (Nat × List Value)} : ∀ {l : List (Nat × List Value)} {c : Nat} {cs : List Value}, fitB σ G bl l = true → look l c = some cs → ∃ a ds, look σ c = some a ∧ look bl a = some ds ∧ beqL (sameV σ G 4) cs ds = true
  | [], c, cs, _, hl => by cases hl
  | (i, es) :: l, c, cs, h, hl => by
    unfold fitB at h
    split at h
    case h_2 => cases h
    rename_i a ha
    split at h
    case h_2 => cases h
    rename_i ds hds
    simp only [Bool.and_eq_true] at h
    rw [look_cons] at hl
    split at hl
    · rename_i e; subst e; cases hl; exact ⟨a, ds, ha, hds, h.1⟩
    · exact fitB_look h.2 hl
def sameE (σ : Sg) (G : List (Nat × List Value)) : List (Value × Value) → List (Value × Value) → Bool
  | [], [] => true
  | p :: l, q :: m => (beqV 6 p.1 q.1 && sameV σ G 4 p.2 q.2) && sameE σ G l m
  | _, _ => false
def fitO (σ : Sg) (G : List (Nat × List Value)) (ob : List (Nat × AOb)) : List (Nat × AOb) → Bool
  | [] => true
  | p :: l => match p.2 with
    | .map es => (match look σ p.1 with
      | some a => (match look ob a with
        | some (.map fs) => sameE σ G es fs && fitO σ G ob l
        | _ => false)
      | none => false)
    | _ => false
theorem fitO_look {σ : Sg} {G : List (Nat × List Value)} {ob : List (Nat × AOb)} : ∀ {l : List (Nat × AOb)} {c : Nat} {o : AOb}, fitO σ G ob l = true → look l c = some o → ∃ a es fs, o = .map es ∧ look σ c = some a ∧ look ob a = some (.map fs) ∧ sameE σ G es fs = true
  | [], c, cs, _, hl => by cases hl
  | (i, o') :: l, c, o, h, hl => by
    cases o' with
    | map es =>
      simp only [fitO] at h
      split at h
      case h_2 => cases h
      rename_i a ha
      split at h
      case h_2 => cases h
      rename_i fs hfs
      simp only [Bool.and_eq_true] at h
      rw [look_cons] at hl
      split at hl
      · rename_i e; subst e; cases hl; exact ⟨a, es, fs, rfl, ha, hfs, h.1⟩
      · exact fitO_look h.2 hl
    | _ => simp only [fitO] at h; cases h
theorem sameE_rel {σ : Sg} {G : List (Nat × List Value)} {ρ : Nat → Option Nat} {r : Nat → Option (Nat × Nat)} (hp : ∀ v u y, sameV σ G 4 v u = true → VR r u y → VR (viaR ρ r) v y) : ∀ {es fs : List (Value × Value)} {l : List MapEntry}, sameE σ G es fs = true → EntsR r fs l → EntsR (viaR ρ r) es l
  | [], [], [], _, _ => trivial
  | [], [], _ :: _, _, hr => hr.elim
  | _ :: _, [], _, h, _ => by cases h
  | [], _ :: _, _, h, _ => by cases h
  | p :: es, q :: fs, [], _, hr => hr.elim
  | p :: es, q :: fs, e :: l, h, hr => by
    simp only [sameE, Bool.and_eq_true] at h
    exact ⟨⟨by rw [beqV_eq 6 _ _ h.1.1]; exact hr.1.1, hp _ _ _ h.1.2 hr.1.2⟩, sameE_rel hp h.2 hr.2⟩
/-- The names, one by one. -/
def someB {α : Type} : Option α → Bool
  | some _ => true
  | none => false
def okS (G : List (Nat × List Value)) (qn qlo : Nat) (M : Mem) : Sg → Bool
  | [] => true
  | p :: s => ((someB (look G p.1) || someB (look G p.2)) == false) && ((Nat.blt p.1 (64 * qn) && Nat.beq (p.1 % 64) (p.2 % 64)) && (((Nat.blt p.1 qlo || Nat.ble M.lo p.2) && (someB (look M.bl p.2) || someB (look M.ob p.2))) && (!(s.any fun q => Nat.beq q.2 p.2) && okS G qn qlo M s)))
def okG (qlo : Nat) : List (Nat × List Value) → Bool
  | [] => true
  | p :: l => Nat.blt p.1 qlo && okG qlo l
theorem okG_look {qlo : Nat} : ∀ {l : List (Nat × List Value)} {i : Nat} {cs : List Value}, okG qlo l = true → look l i = some cs → i < qlo
  | [], _, _, _, h => by cases h
  | (j, ds) :: l, i, cs, h, hl => by
    simp only [okG, Bool.and_eq_true] at h
    rw [look_cons] at hl
    split at hl
    · rename_i e; subst e; exact Nat.le_of_ble_eq_true h.1
    · exact okG_look h.2 hl
theorem look_mem' {α : Type} : ∀ {l : List (Nat × α)} {i : Nat} {c : α}, look l i = some c → (i, c) ∈ l
  | [], i, c, h => by cases h
  | (k, d) :: l, i, c, h => by
    rw [look_cons] at h
    split at h
    · rename_i e; subst e; cases h; exact List.mem_cons_self
    · exact List.mem_cons_of_mem _ (look_mem' h)
structure SOk (G : List (Nat × List Value)) (qn qlo : Nat) (M : Mem) (c a : Nat) : Prop where
  gc : look G c = none
  ga : look G a = none
  lt : c < 64 * qn
  tag : c % 64 = a % 64
  lo : qlo ≤ c → M.lo ≤ a
  here : (∃ ds, look M.bl a = some ds) ∨ ∃ o, look M.ob a = some o
theorem someB_none {α : Type} {x : Option α} (h : someB x = false) : x = none := by cases x <;> first | rfl | cases h
theorem someB_some {α : Type} {x : Option α} (h : someB x = true) : ∃ y, x = some y := by cases x with | none => cases h | some y => exact ⟨y, rfl⟩
theorem okS_mem {G : List (Nat × List Value)} {qn qlo : Nat} {M : Mem} : ∀ {σ : Sg} {c a : Nat}, okS G qn qlo M σ = true → (c, a) ∈ σ → SOk G qn qlo M c a
  | p :: s, c, a, h, hm => by
    simp only [okS, Bool.and_eq_true, Bool.or_eq_true, beq_iff_eq, Bool.or_eq_false_iff, Bool.not_eq_true'] at h
    obtain ⟨⟨h1, h2⟩, ⟨h3, h4⟩, ⟨h5, h6⟩, _, h8⟩ := h
    rcases List.mem_cons.1 hm with e | e
    · subst e
      refine ⟨someB_none h1, someB_none h2, Nat.le_of_ble_eq_true h3, Nat.eq_of_beq_eq_true h4, fun hq => ?_, ?_⟩
      · rcases h5 with h5 | h5
        · have : c < qlo := Nat.le_of_ble_eq_true h5
          omega
        · exact Nat.le_of_ble_eq_true h5
      · rcases h6 with h6 | h6
        · exact .inl (someB_some h6)
        · exact .inr (someB_some h6)
    · exact okS_mem h8 e
theorem okS_inj {G : List (Nat × List Value)} {qn qlo : Nat} {M : Mem} : ∀ {σ : Sg} {c d a : Nat}, okS G qn qlo M σ = true → (c, a) ∈ σ → (d, a) ∈ σ → c = d
  | p :: s, c, d, a, h, hc, hd => by
    simp only [okS, Bool.and_eq_true, Bool.not_eq_true'] at h
    obtain ⟨_, _, _, h7, h8⟩ := h
    have far : ∀ {e : Nat}, (e, p.2) ∈ s → False := fun {e} hm => by
      have := List.any_eq_false.1 h7 _ hm
      simp at this
    rcases List.mem_cons.1 hc with e | e <;> rcases List.mem_cons.1 hd with e' | e'
    · rw [← e] at e'; cases e'; rfl
    · subst e; exact (far e').elim
    · subst e'; exact (far e).elim
    · exact okS_inj h8 e e'

/-! ### The known call, here. -/
def fitsE (σ : Sg) (q : KC) (xs : List Value) (M : Mem) : Bool :=
  bif beqL (sameV σ M.gl 4) q.xs xs then bif fitB σ M.gl M.bl q.bl then bif fitO σ M.gl M.ob q.ob then bif okS M.gl q.next q.lo M σ then Nat.ble q.lo (64 * q.next) && okG q.lo M.gl else false else false else false else false
def movedE (σ : Sg) (q : KC) (M : Mem) : Option CR := match M with
  | ⟨n, lo, _, gl, _⟩ => match renV (renI σ gl q.next n) 4 q.v with
    | some v => forceD 4 v fun v => renBK (renI σ gl q.next n) (renJ σ q.next n) q.bl' fun bl => renOK (renI σ gl q.next n) (renJ σ q.next n) q.ob' fun ob => appK bl gl fun bl => forceN (q.next' - q.next + n) fun next => some (.ret v ⟨next, lo, bl, gl, ob⟩)
    | none => none
theorem moved_sound {P : Program} {G : List (Nat × List Value)} {q : KC} (hq : KnownC P G q) {r : Nat → Option (Nat × Nat)} {M : Mem} {w : World} {xs ys : List Value} {σ : Sg} {c : CR} (hf : fitsE σ q xs M = true) (hv : movedE σ q M = some c)
    (hx : LR r xs ys) (hM : MR r M w) (hG : M.gl = G) : Calls P q.f ys.toArray w (Gives r M w c) := by
  obtain ⟨n, lo, bl, gl, ob⟩ := M
  simp only at hG
  subst hG
  unfold fitsE at hf
  -- what is held
  have hf' : beqL (sameV σ gl 4) q.xs xs = true ∧ fitB σ gl bl q.bl = true ∧ fitO σ gl ob q.ob = true ∧ okS gl q.next q.lo ⟨n, lo, bl, gl, ob⟩ σ = true ∧ Nat.ble q.lo (64 * q.next) = true ∧ okG q.lo gl = true := by
    revert hf
    cases beqL (sameV σ gl 4) q.xs xs <;> cases fitB σ gl bl q.bl <;> cases fitO σ gl ob q.ob <;> cases okS gl q.next q.lo ⟨n, lo, bl, gl, ob⟩ σ <;> simp
  obtain ⟨f1, f2, f3, f4, f5, f6⟩ := hf'
  have f5 := Nat.le_of_ble_eq_true f5
  have sok : ∀ {c a : Nat}, look σ c = some a → SOk gl q.next q.lo ⟨n, lo, bl, gl, ob⟩ c a := fun h => okS_mem f4 (look_mem' h)
  have glN : ∀ {i : Nat} {cs : List Value}, look gl i = some cs → i < 64 * n := fun h => hM.globlt h
  -- the names
  have J : ∀ {c a : Nat}, renJ σ q.next n c = some a → (look σ c = some a) ∨ (look σ c = none ∧ 64 * q.next ≤ c ∧ a = c - 64 * q.next + 64 * n) := fun {c a} h => by
    unfold renJ at h
    split at h
    · rename_i b hb; cases h; exact .inl hb
    · rename_i hb
      cases hl : Nat.ble (64 * q.next) c with
      | false => rw [hl] at h; cases h
      | true => rw [hl] at h; cases h; exact .inr ⟨hb, Nat.le_of_ble_eq_true hl, rfl⟩
  have I : ∀ {c a : Nat}, renI σ gl q.next n c = some a → (∃ cs, look gl c = some cs ∧ a = c) ∨ (look gl c = none ∧ renJ σ q.next n c = some a) := fun {c a} h => by
    unfold renI at h
    split at h
    · rename_i cs hc; cases h; exact .inl ⟨cs, hc, rfl⟩
    · rename_i hc; exact .inr ⟨hc, h⟩
  have Iσ : ∀ {c a : Nat}, look σ c = some a → renI σ gl q.next n c = some a := fun {c a} h => by
    unfold renI renJ
    rw [(sok h).gc, h]
  have Ig : ∀ {c : Nat} {cs : List Value}, look gl c = some cs → renI σ gl q.next n c = some c := fun {c cs} h => by
    unfold renI
    rw [h]
  have IJ : ∀ {c a : Nat}, renJ σ q.next n c = some a → renI σ gl q.next n c = some a := fun {c a} h => by
    rcases J h with k | ⟨k1, k2, k3⟩
    · exact Iσ k
    · cases hg : look gl c with
      | none => unfold renI; rw [hg]; exact h
      | some cs =>
        have := okG_look f6 hg
        omega
  have tag : ∀ c a, renI σ gl q.next n c = some a → a % 64 = c % 64 := fun c a h => by
    rcases I h with ⟨_, _, rfl⟩ | ⟨_, h⟩
    · rfl
    · rcases J h with k | ⟨_, k2, k3⟩
      · exact (sok k).tag.symm
      · omega
  have inj : ∀ {c d a : Nat}, renI σ gl q.next n c = some a → renI σ gl q.next n d = some a → a < 64 * n → c = d := fun {c d a} hc hd ha => by
    rcases I hc with ⟨cs, h1, rfl⟩ | ⟨h1, h2⟩ <;> rcases I hd with ⟨ds, k1, k2⟩ | ⟨k1, k2⟩
    · exact k2
    · rcases J k2 with k | ⟨_, k, k3⟩
      · have := (sok k).ga; rw [h1] at this; cases this
      · omega
    · subst k2
      rcases J h2 with k | ⟨_, k, k3⟩
      · have := (sok k).ga; rw [k1] at this; cases this
      · omega
    · rcases J h2 with h | ⟨_, h, h3⟩ <;> rcases J k2 with k | ⟨_, k, k3⟩
      · exact okS_inj f4 (look_mem' h) (look_mem' k)
      · omega
      · omega
      · omega
  have here : ∀ {c a : Nat}, look σ c = some a → ∃ g, r a = some g := fun {c a} h => by
    rcases (sok h).here with ⟨ds, k⟩ | ⟨o, k⟩
    · obtain ⟨g, _, _, h1, _⟩ := hM.blk a ds k; exact ⟨g, h1⟩
    · obtain ⟨g, _, h1, _⟩ := hM.obj a o k; exact ⟨g, h1⟩
  have rel : ∀ v u y, sameV σ gl 4 v u = true → VR r u y → VR (viaR (renI σ gl q.next n) r) v y := fun v u y => sameV_rel tag 4 v u y
  -- a block of the known call is one that is here
  have blkAt : ∀ {i : Nat} {cs : List Value}, look (q.bl ++ gl) i = some cs → ∃ a ds, renI σ gl q.next n i = some a ∧ look bl a = some ds ∧ (q.lo ≤ i → lo ≤ a) ∧ ∀ (j : Nat) v, cs[j]? = some v → ∃ u, ds[j]? = some u ∧ ∀ y, VR r u y → VR (viaR (renI σ gl q.next n) r) v y := fun {i cs} h => by
    rw [look_append] at h
    cases hl : look q.bl i with
    | some es =>
      rw [hl] at h; cases h
      obtain ⟨a, ds, h1, h2, h3⟩ := fitB_look f2 hl
      exact ⟨a, ds, Iσ h1, h2, (sok h1).lo, fun j v hj => by
        obtain ⟨u, hu, hvu⟩ := (beqL_at h3).2 j v hj
        exact ⟨u, hu, fun y => rel v u y hvu⟩⟩
    | none =>
      rw [hl] at h
      simp only [Option.none_or] at h
      have h2 := hM.glob i cs h
      exact ⟨i, cs, Ig h, h2.2.1, fun hle => (by have := okG_look f6 h; omega), fun j v hj => ⟨v, hj, fun y hy => by
        have hav := List.all_eq_true.1 h2.2.2.2 v (List.mem_of_getElem? hj)
        rw [hy.eq hav]; exact .same 1 _ hav⟩⟩
  have obAt : ∀ {i : Nat} {o : AOb}, look q.ob i = some o → ∃ a es fs, o = .map es ∧ renI σ gl q.next n i = some a ∧ look ob a = some (.map fs) ∧ sameE σ gl es fs = true := fun {i o} h => by
    obtain ⟨a, es, fs, h1, h2, h3, h4⟩ := fitO_look f3 h
    exact ⟨a, es, fs, h1, Iσ h2, h3, h4⟩
  have via : ∀ {c a : Nat} {g : Nat × Nat}, renI σ gl q.next n c = some a → viaR (renI σ gl q.next n) r c = some g → r a = some g := fun {c a g} h hr => by
    obtain ⟨b, h1, h2⟩ := viaR_some hr
    rw [h] at h1; cases h1; exact h2
  have noBl : ∀ {i : Nat} {cs : List Value}, look gl i = some cs → look q.bl i = none := fun {i cs} h => by
    cases hl : look q.bl i with
    | none => rfl
    | some es =>
      obtain ⟨a, ds, h1, _⟩ := fitB_look f2 hl
      have := (sok h1).gc
      rw [h] at this; cases this
  -- the memory that the known call asks
  have hMc : MR (viaR (renI σ gl q.next n) r) (q.mem gl) w := by
    refine ⟨fun i cs hl => ?_, fun i j cs ds g h hi hj hgi hgj e => ?_, fun i g hi => ?_, fun i cs hl => ?_, fun i o hl => ?_, fun i j o p g h hi hj hgi hgj e => ?_⟩
    · obtain ⟨a, ds, h1, h2, _, h3⟩ := blkAt hl
      obtain ⟨g, t, cc, k1, k2, k3, k4⟩ := hM.blk a ds h2
      refine ⟨g, t, cc, viaR_of h1 k1, k2, fun hz => k3 (by rw [tag i a h1]; exact hz), fun j v hj => ?_⟩
      obtain ⟨u, hu, hvu⟩ := h3 j v hj
      obtain ⟨v', m1, m2⟩ := k4 j u hu
      exact ⟨v', m1, hvu v' m2⟩
    · obtain ⟨a, as, h1, h2, _⟩ := blkAt hi
      obtain ⟨b, bs, k1, k2, _⟩ := blkAt hj
      have ha := via h1 hgi
      have hb := via k1 hgj
      have := hM.inj a b as bs g h h2 k2 ha hb e
      subst this
      exact inj h1 k1 (hM.bound _ _ ha)
    · obtain ⟨a, h1, h2⟩ := viaR_some hi
      have hb := hM.bound _ _ h2
      show i < 64 * q.next
      rcases I h1 with ⟨cs, k1, rfl⟩ | ⟨_, k⟩
      · have := okG_look f6 k1; omega
      · rcases J k with k | ⟨_, k1, k2⟩
        · exact (sok k).lt
        · simp only at hb; omega
    · have h1 := hM.glob i cs hl
      obtain ⟨s, hs⟩ := h1.2.2.1
      exact ⟨okG_look f6 hl, by show look (q.bl ++ gl) i = some cs; rw [look_append, noBl hl]; exact hl, ⟨s, viaR_of (Ig hl) hs⟩, h1.2.2.2⟩
    · obtain ⟨a, es, fs, rfl, h1, h2, h3⟩ := obAt hl
      obtain ⟨g, h, k1, k2, ents, clock, k3, k4⟩ := hM.obj a _ h2
      exact ⟨g, h, viaR_of h1 k1, k2, ents, clock, k3, sameE_rel rel h3 k4⟩
    · obtain ⟨a, _, fs, _, h1, h2, _⟩ := obAt hi
      obtain ⟨b, _, fs', _, k1, k2, _⟩ := obAt hj
      have ha := via h1 hgi
      have hb := via k1 hgj
      have := hM.injO a b _ _ g h h2 k2 ha hb e
      subst this
      exact inj h1 k1 (hM.bound _ _ ha)
  -- what comes back
  unfold movedE at hv
  simp only at hv
  split at hv
  case h_2 => cases hv
  rename_i v hrv
  rw [forceD_eq] at hv
  obtain ⟨bl1, hb1, hv⟩ := renBK_some hv
  obtain ⟨ob1, ho1, hv⟩ := renOK_some hv
  rw [appK_eq, forceN_eq] at hv
  cases hv
  refine (hq _ ys w (sameL_rel rel f1 hx) hMc).mono fun e w' ⟨v', rc, he, hvr, hm, hs⟩ => ?_
  obtain ⟨r', hr'⟩ : ∃ r' : Nat → Option (Nat × Nat), ∀ a, r' a = if a < 64 * n then r a else rc (a - 64 * n + 64 * q.next) := ⟨_, fun _ => rfl⟩
  have hnx : q.next ≤ q.next' := hs.next
  have ext : ∀ i g, r i = some g → r' i = some g := fun i g h => by
    have := hM.bound i g h
    rw [hr', if_pos this]; exact h
  have H : ∀ c a g, renI σ gl q.next n c = some a → rc c = some g → r' a = some g := fun c a g h hc => by
    have old : ∀ {g0}, r a = some g0 → r' a = some g := fun {g0} h0 => by
      have := hs.ext _ _ (viaR_of h h0)
      rw [hc] at this; cases this
      exact ext _ _ h0
    rcases I h with ⟨cs, k1, rfl⟩ | ⟨_, k⟩
    · obtain ⟨s, k2⟩ := (hM.glob _ cs k1).2.2.1
      exact old k2
    · rcases J k with k | ⟨_, k1, k2⟩
      · obtain ⟨g0, k2⟩ := here k
        exact old k2
      · rw [hr', if_neg (by omega), show a - 64 * n + 64 * q.next = c by omega]
        exact hc
  have back : ∀ v u y, renV (renI σ gl q.next n) 4 v = some u → VR rc v y → VR r' u y := fun v u y => renV_rel tag H 4 v u y
  have gl' : ∀ {i cs}, look gl i = some cs → look (q.bl' ++ gl) i = some cs := fun {i cs} h => (hm.glob i cs h).2.1
  -- a block behind the call
  have blkB : ∀ {i : Nat} {cs : List Value}, look (bl1 ++ gl) i = some cs → ∃ c ds, renI σ gl q.next n c = some i ∧ look (q.bl' ++ gl) c = some ds ∧ ((∃ ks, look gl i = some ks ∧ c = i) ∨ (look gl c = none ∧ renJ σ q.next n c = some i)) ∧ ∀ (j : Nat) v, cs[j]? = some v → ∃ u, ds[j]? = some u ∧ ∀ y, VR rc u y → VR r' v y := fun {i cs} h => by
    rw [look_append] at h
    cases hl : look bl1 i with
    | some es =>
      rw [hl] at h; cases h
      obtain ⟨c, ds, h1, h2, h3⟩ := renB_look hb1 hl
      have hg : look gl c = none := by
        cases hg : look gl c with
        | none => rfl
        | some ks =>
          rcases J h1 with k | ⟨_, k1, k2⟩
          · have := (sok k).gc; rw [hg] at this; cases this
          · have := okG_look f6 hg; omega
      refine ⟨c, ds, IJ h1, by rw [look_append, h2]; rfl, .inr ⟨hg, h1⟩, fun j v hj => ?_⟩
      obtain ⟨u, hu, huv⟩ := (renL_at h3).2 j v hj
      exact ⟨u, hu, fun y => back u v y huv⟩
    | none =>
      rw [hl] at h
      simp only [Option.none_or] at h
      refine ⟨i, cs, Ig h, gl' h, .inl ⟨cs, h, rfl⟩, fun j v hj => ⟨v, hj, fun y hy => ?_⟩⟩
      have hav := List.all_eq_true.1 (hM.glob i cs h).2.2.2 v (List.mem_of_getElem? hj)
      rw [hy.eq hav]; exact .same 1 _ hav
  have val : ∀ {c i : Nat} {ds : List Value} {g : Nat × Nat}, renI σ gl q.next n c = some i → look (q.bl' ++ gl) c = some ds → r' i = some g → rc c = some g := fun {c i ds g} h h1 h2 => by
    obtain ⟨g', _, _, k, _⟩ := hm.blk c ds h1
    have := H c i g' h k
    rw [h2] at this; cases this; exact k
  have valO : ∀ {c i : Nat} {o : AOb} {g : Nat × Nat}, renI σ gl q.next n c = some i → look q.ob' c = some o → r' i = some g → rc c = some g := fun {c i o g} h h1 h2 => by
    obtain ⟨g', _, k, _⟩ := hm.obj c o h1
    have := H c i g' h k
    rw [h2] at this; cases this; exact k
  have oldB : ∀ {i : Nat} {cs : List Value}, look (bl1 ++ gl) i = some cs → i < 64 * n → ∃ ds, look bl i = some ds := fun {i cs} h hi => by
    obtain ⟨c, ds, h1, h2, h3, _⟩ := blkB h
    rcases h3 with ⟨ks, h3, rfl⟩ | ⟨hg, h3⟩
    · exact ⟨ks, (hM.glob _ ks h3).2.1⟩
    · rcases J h3 with k | ⟨_, k1, k2⟩
      · obtain ⟨es, k2⟩ := hs.old c ds h2 (sok k).lt
        have k2' : look (q.bl ++ gl) c = some es := k2
        obtain ⟨a, as, k3, k4, _⟩ := blkAt k2'
        have := Iσ k
        rw [k3] at this; cases this
        exact ⟨as, k4⟩
      · omega
  refine ⟨v', r', he, back _ _ _ hrv hvr, ⟨fun i cs hl => ?_, fun i j cs ds g h hi hj hgi hgj e => ?_, fun i g hi => ?_, fun i cs hl => ?_, fun i o hl => ?_, fun i j o p g h hi hj hgi hgj e => ?_⟩, ⟨ext, rfl, by show n ≤ q.next' - q.next + n; omega, fun i cs hl hi => oldB hl hi, hs.os, hs.tape, hs.output, hs.size, fun k hk hn hn' => ?_, fun i cs g hlo hl hi hg => ?_, rfl, fun i o g hl hi hg => ?_⟩⟩
  · obtain ⟨c, ds, h1, h2, _, h3⟩ := blkB hl
    obtain ⟨g, t, cc, k1, k2, k3, k4⟩ := hm.blk c ds h2
    refine ⟨g, t, cc, H c i g h1 k1, k2, fun hz => k3 (by rw [← tag c i h1]; exact hz), fun j v hj => ?_⟩
    obtain ⟨u, hu, huv⟩ := h3 j v hj
    obtain ⟨y, m1, m2⟩ := k4 j u hu
    exact ⟨y, m1, huv y m2⟩
  · obtain ⟨c, cs', h1, h2, _⟩ := blkB hi
    obtain ⟨d, ds', k1, k2, _⟩ := blkB hj
    have := hm.inj c d cs' ds' g h h2 k2 (val h1 h2 hgi) (val k1 k2 hgj) e
    subst this
    rw [h1] at k1; cases k1; rfl
  · show i < 64 * (q.next' - q.next + n)
    rw [hr'] at hi
    split at hi
    · omega
    · have : i - 64 * n + 64 * q.next < 64 * q.next' := hm.bound _ _ hi
      omega
  · have h1 := hM.glob i cs hl
    obtain ⟨s, h2⟩ := h1.2.2.1
    refine ⟨h1.1, ?_, ⟨s, ext _ _ h2⟩, h1.2.2.2⟩
    show look (bl1 ++ gl) i = some cs
    rw [look_append]
    cases hl1 : look bl1 i with
    | none => exact hl
    | some es =>
      obtain ⟨c, ds, k1, _⟩ := renB_look hb1 hl1
      have := glN hl
      rcases J k1 with k | ⟨_, k2, k3⟩
      · have := (sok k).ga; rw [hl] at this; cases this
      · omega
  · obtain ⟨c, es, fs, h1, h2, h3, rfl⟩ := renO_look ho1 hl
    obtain ⟨g, h, k1, k2, ents, clock, k3, k4⟩ := hm.obj c _ h2
    exact ⟨g, h, H c i g (IJ h1) k1, k2, ents, clock, k3, renE_rel back h3 k4⟩
  · obtain ⟨c, es, fs, h1, h2, _⟩ := renO_look ho1 hi
    obtain ⟨d, es', fs', k1, k2, _⟩ := renO_look ho1 hj
    have := hm.injO c d _ _ g h h2 k2 (valO (IJ h1) h2 hgi) (valO (IJ k1) k2 hgj) e
    subst this
    rw [h1] at k1; cases k1; rfl
  · refine hs.keep k hk (fun c cs g hlo hl hc => ?_) fun c o g hl hc => ?_
    · obtain ⟨a, ds, h1, h2, h3, _⟩ := blkAt hl
      exact hn a ds g (h3 hlo) h2 (via h1 hc)
    · obtain ⟨a, es, fs, _, h1, h2, _⟩ := obAt hl
      exact hn' a _ g h2 (via h1 hc)
  · have hlo' : lo ≤ i := hlo
    obtain ⟨c, ds, h1, h2, h3, _⟩ := blkB hl
    have hc := val h1 h2 hi
    rcases h3 with ⟨ks, h3, rfl⟩ | ⟨hg', h3⟩
    · have := (hM.glob _ ks h3).1
      simp only at this
      omega
    · rcases Nat.lt_or_ge c q.lo with hcl | hcl
      · rcases J h3 with k | ⟨_, k1, k2⟩
        · obtain ⟨g0, k1⟩ := here k
          have k2 := ext _ _ k1
          rw [hi] at k2; cases k2
          obtain ⟨ds', k3⟩ := oldB hl (hM.bound _ _ k1)
          exact ⟨i, ds', _, hlo', k3, k1, rfl⟩
        · omega
      · obtain ⟨j, es, h, k1, k2, k3, k4⟩ := hs.anc c ds g (by rw [hs.lo]; exact hcl) h2 hc hg
        obtain ⟨a, as, m1, m2, m3, _⟩ := blkAt k2
        exact ⟨a, as, h, m3 k1, m2, via m1 k3, k4⟩
  · obtain ⟨c, es, fs, h1, h2, _⟩ := renO_look ho1 hl
    obtain ⟨j, p, h, k1, k2, k3⟩ := hs.ancO c _ g h2 (valO (IJ h1) h2 hi) hg
    obtain ⟨a, _, fs', _, m1, m2, _⟩ := obAt k1
    exact ⟨a, _, h, m2, via m1 k2, k3⟩

/-! ### The table of known calls, asked. -/
/-- The names of the blocks that a call leads to, in the order in which they were met. -/
def sigK {β : Type} (gl bl : List (Nat × List Value)) (ob : List (Nat × AOb)) : List Nat → Nat → (Sg → β) → β
  | [], _, k => k []
  | a :: R, j, k => match look gl a with
    | some _ => sigK gl bl ob R j k
    | none => bif someB (look bl a) || someB (look ob a) then forceN (64 * j + a % 64) fun c => sigK gl bl ob R (j + 1) fun s => k ((c, a) :: s) else sigK gl bl ob R j k
def hashR (gl bl : List (Nat × List Value)) : List Nat → Nat → Nat
  | [], acc => acc
  | a :: R, acc => match look gl a with
    | some _ => hashR gl bl R acc
    | none => match look bl a with
      | some (v :: _) => forceN ((acc * 31 + hashX 4 v) % 65521) fun acc => hashR gl bl R acc
      | _ => hashR gl bl R acc
def lookR : List KC → FuncId → List Value → Sg → Mem → Option CR
  | [], _, _, _, _ => none
  | q :: l, f, xs, σ, M => bif Nat.beq q.f f then bif fitsE σ q xs M then movedE σ q M else lookR l f xs σ M else lookR l f xs σ M
def findE (T : HT KC) (f : FuncId) (xs : List Value) (R : List Nat) (M : Mem) : Option CR := match R with
  | [] => none
  | _ => match M with
    | ⟨n, lo, bl, gl, ob⟩ => (match HT.get 10 (hashR gl bl R (hashF f xs)) T with
      | [] => none
      | q :: l => sigK gl bl ob R 1000 fun σ => lookR (q :: l) f xs σ ⟨n, lo, bl, gl, ob⟩)
theorem sigK_some {β : Type} {gl bl : List (Nat × List Value)} {ob : List (Nat × AOb)} : ∀ (R : List Nat) (j : Nat) (k : Sg → β), ∃ σ, sigK gl bl ob R j k = k σ
  | [], j, k => ⟨[], rfl⟩
  | a :: R, j, k => by
    unfold sigK
    split
    · exact sigK_some R j k
    · cases (someB (look bl a) || someB (look ob a)) with
      | true => rw [forceN_eq]; obtain ⟨σ, h⟩ := sigK_some R (j + 1) fun s => k ((64 * j + a % 64, a) :: s); exact ⟨_, h⟩
      | false => exact sigK_some R j k
theorem lookR_sound {f : FuncId} {xs : List Value} {σ : Sg} {M : Mem} {c : CR} : ∀ {l : List KC}, lookR l f xs σ M = some c → ∃ q ∈ l, q.f = f ∧ fitsE σ q xs M = true ∧ movedE σ q M = some c
  | [], h => by cases h
  | q :: l, h => by
    simp only [lookR] at h
    have more : lookR l f xs σ M = some c → ∃ q' ∈ q :: l, q'.f = f ∧ fitsE σ q' xs M = true ∧ movedE σ q' M = some c := fun h => by
      obtain ⟨q', h1, h2⟩ := lookR_sound h
      exact ⟨q', List.mem_cons_of_mem _ h1, h2⟩
    cases h1 : Nat.beq q.f f with
    | false => rw [h1] at h; exact more h
    | true =>
      rw [h1] at h
      cases h2 : fitsE σ q xs M with
      | false => rw [h2] at h; exact more h
      | true => rw [h2] at h; exact ⟨q, List.mem_cons_self, Nat.eq_of_beq_eq_true h1, h2, h⟩
theorem findE_sound {T : HT KC} {f : FuncId} {xs : List Value} {R : List Nat} {M : Mem} {c : CR} (h : findE T f xs R M = some c) : ∃ q σ, T.Has q ∧ q.f = f ∧ fitsE σ q xs M = true ∧ movedE σ q M = some c := by
  unfold findE at h
  split at h
  · cases h
  · obtain ⟨n, lo, bl, gl, ob⟩ := M
    simp only at h
    split at h
    · cases h
    · rename_i q l hg
      obtain ⟨σ, hσ⟩ := sigK_some (β := Option CR) (gl := gl) (bl := bl) (ob := ob) R 1000 fun σ => lookR (q :: l) f xs σ ⟨n, lo, bl, gl, ob⟩
      rw [hσ] at h
      obtain ⟨q', h1, h2, h3, h4⟩ := lookR_sound h
      exact ⟨q', σ, HT.get_has _ _ _ (by rw [hg]; exact h1), h2, h3, h4⟩

/-! ### One operation, a call or not. -/
def opE (P : Program) (T : Tab) (self : Self) (env : Env) (M : Mem) (o : Oper) : Option CR := match calleeA P env o with
  | some (f, fn, b, xs) => match lookT (HT.get 8 (hashA f xs) T.k) f xs with
    | some v => some (.ret v M)
    | none => match env with | ⟨_, _, gs, _, _⟩ => frameE M xs fun R M => (match findE T.c f xs R M with
      | some c => some c
      | none => callE P self gs fn b xs M)
  | none => match opT P env M o with
    | some (v, M') => some (.ret v M')
    | none => match panicA env o with
      | some v => some (.pan [{ v, recovered := false }] M)
      | none => none
theorem opE_run {P : Program} (hN : noRoutines P) {G : List (Nat × List Value)} {T : Tab} (hT : TOk P G T) {self : Self} (hself : SelfOk P G self) {env : Env} {M : Mem} {o : Oper} {c : CR} {r : Nat → Option (Nat × Nat)} {a : Act} {w : World} (h : opE P T self env M o = some c)
    (he : ER r env a.tmps) (hM : MR r M w) (hG : M.gl = G) :
    (∃ v M' r' v' w', c = .ret v M' ∧ Out P (execOp a.eval o) w r M v M' r' v' w') ∨ (∃ f ys, (execOp a.eval o).run P w = .ok (.enter f ys) w ∧ Calls P f ys w (Gives r M w c)) ∨ ∃ v, c = .pan [{ v, recovered := false }] M ∧ (execOp a.eval o).run P w = .halt (.panic v) w := by
  unfold opE at h
  cases hc : calleeA P env o with
  | some q =>
    obtain ⟨f, fn, b, xs⟩ := q
    rw [hc] at h
    obtain ⟨ys, h1, h2, h3, h4⟩ := callee_sound hN w hc he
    refine .inr (.inl ⟨f, ys.toArray, h1, ?_⟩)
    simp only at h
    cases hk : lookT (HT.get 8 (hashA f xs) T.k) f xs with
    | some u =>
      rw [hk] at h; cases h
      obtain ⟨k1, k2, k3⟩ := lookT_sound (fun q hq => hT.1 q (HT.get_has _ _ _ hq)) hk
      rw [h2.eq k1]
      refine (k3 w (by rw [← hG]; exact hM.gl)).mono fun e w' ⟨he', hb⟩ => ?_
      subst he'
      obtain ⟨s1, s2⟩ := same_rel hM hb
      exact ⟨_, r, rfl, .same 4 _ k2, s1, s2⟩
    | none =>
      rw [hk] at h
      simp only at h
      refine frame_sound (G := G) (fun R M c h hM hG => ?_) hM hG h
      split at h
      · rename_i c' hlc
        cases h
        obtain ⟨q, σ, hq, rfl, hf, hv⟩ := findE_sound hlc
        exact moved_sound (hT.2 q hq) hf hv h2 hM hG
      · exact call_sound hN hself h3 h4 h2 hM hG he.3 h
  | none =>
    rw [hc] at h
    simp only at h
    cases ht : opT P env M o with
    | some q =>
      obtain ⟨v, M'⟩ := q
      rw [ht] at h; cases h
      obtain ⟨r', v', w', ho⟩ := opT_sound ht he hM
      exact .inl ⟨v, M', r', v', w', rfl, ho⟩
    | none =>
      rw [ht] at h
      simp only at h
      cases hp : panicA env o with
      | none => rw [hp] at h; cases h
      | some v =>
        rw [hp] at h; cases h
        exact .inr (.inr ⟨v, rfl, (panicA_sound w hp he).1⟩)
theorem opE_soundIn {P : Program} (hN : noRoutines P) {G : List (Nat × List Value)} {T : Tab} (hT : TOk P G T) {self : Self} (hself : SelfOk P G self) {env : Env} {M : Mem} {o : Oper} {c : CR} {r : Nat → Option (Nat × Nat)} {a : Act} {w : World} (ro : Option Nat) (h : opE P T self env M o = some c)
    (hnd : ∀ c, o.op ≠ .defer c) (he : ER r env a.tmps) (hM : MR r M w) (hG : M.gl = G) {K : Act → World → Prop} {Q : Exit → Act → World → Prop}
    (hK : ∀ v M' r' v' w', c = .ret v M' → VR r' v v' → MR r' M' w' → Stp r M w r' M' w' → K (a.put o.dst v') w') (hP : ∀ ch M' r' w', c = .pan ch M' → MR r' M' w' → Stp r M w r' M' w' → Q (.panic ch) a w') : o.wpIn (FR ro) 0 P a w K Q := by
  refine ⟨fun _ _ => trivial, ?_⟩
  rw [Oper.semAt_eq _ _ _ hnd]
  rcases opE_run hN hT hself h he hM hG with ⟨v, M', r', v', w', rfl, ho⟩ | ⟨f, ys, hrun, hcall⟩ | ⟨v, rfl, hrun⟩
  · rcases ho.run with h1 | ⟨h1, h2⟩
    · rw [h1]; exact hK v M' r' v' w' rfl ho.val ho.mem ho.stp
    · rw [h1]; subst h2; exact hK v M' r' _ w' rfl ho.val ho.mem ho.stp
  · rw [hrun]
    refine ⟨fun hn => (by cases hn), ?_⟩
    have hc := (callsIn_wide (n := 0)).2 (hcall.mono (R' := fun
      | .returned v, w'' => K (a.put o.dst v) w''
      | .panicked chain, w'' => Q (.panic chain) a w''
      | .outgrown, _ => LetsOut Q) fun e w' hg => by
        cases c with
        | ret v M' => obtain ⟨v', r', rfl, h2, h3, h4⟩ := hg; exact hK v M' r' v' w' rfl h2 h3 h4
        | pan ch M' => obtain ⟨rfl, r', h3, h4⟩ := hg; exact hP ch M' r' w' rfl h3 h4)
    exact hc
  · rw [hrun]
    exact hP _ M r w rfl hM (.refl _ _ _)
/-- Where a region draws its order: an operation that gives a value. -/
def opV (P : Program) (T : Tab) (self : Self) (env : Env) (M : Mem) (o : Oper) : Option (Value × Mem) := match opE P T self env M o with
  | some (.ret v M') => some (v, M')
  | _ => none
theorem opV_sound {P : Program} (hN : noRoutines P) {G : List (Nat × List Value)} {T : Tab} (hT : TOk P G T) {self : Self} (hself : SelfOk P G self) {env : Env} {M M' : Mem} {o : Oper} {v : Value} {r : Nat → Option (Nat × Nat)} {a : Act} {w : World} (h : opV P T self env M o = some (v, M'))
    (he : ER r env a.tmps) (hM : MR r M w) (hG : M.gl = G) {K : Act → World → Prop} {Q : Exit → Act → World → Prop} (hK : ∀ r' v' w', VR r' v v' → MR r' M' w' → Stp r M w r' M' w' → K (a.put o.dst v') w') : o.wp P a w K Q := by
  unfold opV at h
  split at h
  case h_2 => cases h
  rename_i u M2 hq
  cases h
  unfold Oper.wp
  rcases opE_run hN hT hself hq he hM hG with ⟨v, M', r', v', w', e, ho⟩ | ⟨f, ys, hrun, hcall⟩ | ⟨v, e, hrun⟩
  · cases e
    rcases ho.run with h1 | ⟨h1, h2⟩
    · rw [h1]; exact hK r' v' w' ho.val ho.mem ho.stp
    · rw [h1]; subst h2; exact hK r' _ w' ho.val ho.mem ho.stp
  · rw [hrun]
    refine hcall.mono fun e w' ⟨v', r', he', hv, hm, hs⟩ => ?_
    subst he'
    exact hK r' v' w' hv hm hs
  · cases e
theorem opV_soundIn {P : Program} (hN : noRoutines P) {G : List (Nat × List Value)} {T : Tab} (hT : TOk P G T) {self : Self} (hself : SelfOk P G self) {env : Env} {M M' : Mem} {o : Oper} {v : Value} {r : Nat → Option (Nat × Nat)} {a : Act} {w : World} (ro : Option Nat) (h : opV P T self env M o = some (v, M'))
    (hnd : ∀ c, o.op ≠ .defer c) (he : ER r env a.tmps) (hM : MR r M w) (hG : M.gl = G) {K : Act → World → Prop} {Q : Exit → Act → World → Prop} (hK : ∀ r' v' w', VR r' v v' → MR r' M' w' → Stp r M w r' M' w' → K (a.put o.dst v') w') : o.wpIn (FR ro) 0 P a w K Q := by
  unfold opV at h
  split at h
  case h_2 => cases h
  rename_i u M2 hq
  cases h
  exact opE_soundIn hN hT hself ro hq hnd he hM hG (fun v M' r' v' w' e h1 h2 h3 => by cases e; exact hK r' v' w' h1 h2 h3) fun ch M' r' w' e => by cases e
end Ev
end Go.Proofs.YtccjmmdppjialaaGreatDoor
