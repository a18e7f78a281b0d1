/- The evaluator, three texts: R J S K L M. No program is named here. -/
import Derived.Test.YtjinpngojdefiaaEvQ
import Derived.Scope
import Derived.OrdersIn
/-! ## R -/
namespace Go.Proofs.Ytjinpngojdefiaa
open Go.RowKit
namespace Ev

abbrev Sg := List (Nat × Nat)
/-- The name that a block of a known call has here. -/
def renJ (σ : Sg) (n0 n c : Nat) : Option Nat := match look σ c with
  | some a => some a
  | none => bif Nat.ble (64 * n0) c then some (c - 64 * n0 + 64 * n) else none
def renI (σ : Sg) (G : List (Nat × List Value)) (n0 n c : Nat) : Option Nat := match look G c with
  | some _ => some c
  | none => renJ σ n0 n c
def sameI (σ : Sg) (G : List (Nat × List Value)) (c a : Nat) : Bool := match look G c with
  | some _ => Nat.beq c a
  | none => match look σ c with
    | some b => Nat.beq b a
    | none => false
def sameA (σ : Sg) (G : List (Nat × List Value)) : Option Addr → Option Addr → Bool
  | some ⟨b, o, none⟩, some ⟨b', o', none⟩ => Nat.beq o o' && sameI σ G b b'
  | _, _ => false
def sameM (σ : Sg) (G : List (Nat × List Value)) : Option Nat → Option Nat → Bool
  | some i, some j => sameI σ G i j
  | _, _ => false
/-- A value of the known call, held against one that is here. -/
def sameV (σ : Sg) (G : List (Nat × List Value)) : Nat → Value → Value → Bool
  | 0, _, _ => false
  | n + 1, v, u => bif af 4 v then beqV 6 v u else match v with
    | .pointer a => (match u with
      | .pointer b => sameA σ G a b
      | _ => false)
    | .slice a l c => (match u with
      | .slice b k d => (Nat.beq l k && Nat.beq c d) && sameA σ G a b
      | _ => false)
    | .map i => (match u with
      | .map j => sameM σ G i j
      | _ => false)
    | .agg xs => (match u with
      | .agg ys => beqL (sameV σ G n) xs.toList ys.toList
      | _ => false)
    | .tuple xs => (match u with
      | .tuple ys => beqL (sameV σ G n) xs.toList ys.toList
      | _ => false)
    | .func f xs us => (match u with
      | .func g ys vs => (!(isYield f) && decide (f = g)) && (beqL (sameV σ G n) xs.toList ys.toList && beqL (sameV σ G n) us.toList vs.toList)
      | _ => false)
    | .iface t x => (match u with
      | .iface t' y => Nat.beq t t' && sameV σ G n x y
      | _ => false)
    | _ => false
theorem beqL_at {p : Value → Value → Bool} : ∀ {xs ys : List Value}, beqL p xs ys = true → xs.length = ys.length ∧ ∀ (i : Nat) x, xs[i]? = some x → ∃ y, ys[i]? = some y ∧ p x y = true
  | [], [], _ => ⟨rfl, fun i x h => by simp at h⟩
  | [], _ :: _, h => by cases h
  | _ :: _, [], h => by cases h
  | x :: xs, y :: ys, h => by
    simp only [beqL, Bool.and_eq_true] at h
    obtain ⟨h1, h2⟩ := beqL_at h.2
    refine ⟨by simp [h1], fun i u hu => ?_⟩
    cases i with
    | zero => simp only [List.getElem?_cons_zero] at hu ⊢; cases hu; exact ⟨y, rfl, h.1⟩
    | succ i => simp only [List.getElem?_cons_succ] at hu ⊢; exact h2 i u hu
/-- What the names here lead to, by the known call's names. -/
def viaR (ρ : Nat → Option Nat) (r : Nat → Option (Nat × Nat)) : Nat → Option (Nat × Nat) := fun c => match ρ c with
  | some a => r a
  | none => none
theorem viaR_some {ρ : Nat → Option Nat} {r : Nat → Option (Nat × Nat)} {c : Nat} {g : Nat × Nat} (h : viaR ρ r c = some g) : ∃ a, ρ c = some a ∧ r a = some g := by
  unfold viaR at h
  split at h
  · rename_i a ha; exact ⟨a, ha, h⟩
  · cases h
theorem viaR_of {ρ : Nat → Option Nat} {r : Nat → Option (Nat × Nat)} {c a : Nat} {g : Nat × Nat} (h : ρ c = some a) (hr : r a = some g) : viaR ρ r c = some g := by
  unfold viaR; rw [h]; exact hr
theorem sameI_ren {σ : Sg} {G : List (Nat × List Value)} {n0 n c a : Nat} (h : sameI σ G c a = true) : renI σ G n0 n c = some a := by
  unfold sameI at h
  unfold renI renJ
  split at h
  · rw [Nat.eq_of_beq_eq_true h]
  · split at h
    · rw [Nat.eq_of_beq_eq_true h]
    · cases h
theorem sameA_ren {σ : Sg} {G : List (Nat × List Value)} {n0 n : Nat} {a b : Option Addr} (h : sameA σ G a b = true) : ∃ c o d, a = some ⟨c, o, none⟩ ∧ b = some ⟨d, o, none⟩ ∧ renI σ G n0 n c = some d := by
  unfold sameA at h
  split at h
  · simp only [Bool.and_eq_true] at h
    exact ⟨_, _, _, rfl, by rw [Nat.eq_of_beq_eq_true h.1], sameI_ren h.2⟩
  · cases h
theorem sameL_rel {ρ : Nat → Option Nat} {p : Value → Value → Bool} {r : Nat → Option (Nat × Nat)} (hp : ∀ v u y, p v u = true → VR r u y → VR (viaR ρ r) v y) {xs ys zs : List Value} (h : beqL p xs ys = true) (hr : LR r ys zs) : LR (viaR ρ r) xs zs := by
  obtain ⟨h1, h2⟩ := beqL_at h
  refine ⟨h1.trans hr.1, fun i x z hx hz => ?_⟩
  obtain ⟨y, hy, hxy⟩ := h2 i x hx
  exact hp x y z hxy (hr.2 i y z hy hz)
theorem sameV_rel {σ : Sg} {G : List (Nat × List Value)} {n0 n : Nat} {r : Nat → Option (Nat × Nat)} (hm : ∀ c a, renI σ G n0 n c = some a → a % 64 = c % 64) : ∀ (k : Nat) (v u y : Value), sameV σ G k v u = true → VR r u y → VR (viaR (renI σ G n0 n) r) v y
  | 0, _, _, _, h, _ => by cases h
  | k + 1, v, u, y, h, hu => by
    have ih := fun v u y => sameV_rel (σ := σ) (G := G) (n0 := n0) (n := n) (r := r) hm k v u y
    unfold sameV at h
    cases ha : af 4 v with
    | true =>
      rw [ha] at h
      have e := beqV_eq 6 _ _ h
      subst e
      rw [hu.eq ha]
      exact .same 4 _ ha
    | false =>
      rw [ha] at h
      simp only [cond_false] at h
      split at h
      · split at h
        · obtain ⟨c, o, d, rfl, rfl, hd⟩ := sameA_ren (n0 := n0) (n := n) h
          obtain ⟨_, g, hg, rfl⟩ := hu.of_ptr
          exact .ptr c o g (viaR_of hd hg)
        · cases h
      · split at h
        · simp only [Bool.and_eq_true] at h
          obtain ⟨⟨h1, h2⟩, h3⟩ := h
          obtain ⟨c, o, d, rfl, rfl, hd⟩ := sameA_ren (n0 := n0) (n := n) h3
          cases Nat.eq_of_beq_eq_true h1
          cases Nat.eq_of_beq_eq_true h2
          obtain ⟨_, g, c', hg, hc, ht, rfl⟩ := hu.of_slice
          exact .slice c o _ _ c' g (viaR_of hd hg) hc (by rw [← hm c d hd]; exact ht)
        · cases h
      · split at h
        · unfold sameM at h
          split at h
          · obtain ⟨g, hg, rfl⟩ := hu.of_map
            exact .map _ g (viaR_of (sameI_ren h) hg)
          · cases h
        · cases h
      · split at h
        · obtain ⟨zs, rfl, hz⟩ := hu.of_agg
          have := VR.agg' (sameL_rel ih h hz)
          simpa using this
        · cases h
      · split at h
        · obtain ⟨zs, rfl, hz⟩ := hu.of_tuple
          have := VR.tuple' (sameL_rel ih h hz)
          simpa using this
        · cases h
      · split at h
        · simp only [Bool.and_eq_true, Bool.not_eq_true', decide_eq_true_eq] at h
          obtain ⟨⟨hy, rfl⟩, h1, h2⟩ := h
          obtain ⟨zs, us, rfl, hz1, hz2⟩ := hu.of_func hy
          have := VR.func' _ hy (sameL_rel ih h1 hz1) (sameL_rel ih h2 hz2)
          simpa using this
        · cases h
      · split at h
        · simp only [Bool.and_eq_true] at h
          cases Nat.eq_of_beq_eq_true h.1
          obtain ⟨z, rfl, hz⟩ := hu.of_iface
          exact .iface _ _ _ (ih _ _ _ h.2 hz)
        · cases h
      · cases h

/-! ### What comes back, by the names that are here. -/
def renA (ρ : Nat → Option Nat) (a : Option Addr) : Option (Option Addr) := match a with
  | some ⟨b, o, none⟩ => (match ρ b with
    | some b => some (some ⟨b, o, none⟩)
    | none => none)
  | _ => none
def renL (f : Value → Option Value) : List Value → Option (List Value)
  | [] => some []
  | x :: xs => match f x with
    | some y => (match renL f xs with
      | some ys => some (y :: ys)
      | none => none)
    | none => none
def renV (ρ : Nat → Option Nat) : Nat → Value → Option Value
  | 0, _ => none
  | n + 1, v => bif af 4 v then some v else match v with
    | .pointer a => (match renA ρ a with
      | some a => some (.pointer a)
      | none => none)
    | .slice a l c => (match renA ρ a with
      | some a => some (.slice a l c)
      | none => none)
    | .map i => (match i with
      | some i => (match ρ i with
        | some i => some (.map (some i))
        | none => none)
      | none => none)
    | .agg xs => (match renL (renV ρ n) xs.toList with
      | some xs => some (.agg ⟨xs⟩)
      | none => none)
    | .tuple xs => (match renL (renV ρ n) xs.toList with
      | some xs => some (.tuple ⟨xs⟩)
      | none => none)
    | .func f xs us => bif isYield f then none else (match renL (renV ρ n) xs.toList with
      | some xs => (match renL (renV ρ n) us.toList with
        | some us => some (.func f ⟨xs⟩ ⟨us⟩)
        | none => none)
      | none => none)
    | .iface t x => (match renV ρ n x with
      | some x => some (.iface t x)
      | none => none)
    | .chan c => some (.chan c)
    | _ => none
theorem renL_at {f : Value → Option Value} : ∀ {xs ys : List Value}, renL f xs = some ys → xs.length = ys.length ∧ ∀ (i : Nat) y, ys[i]? = some y → ∃ x, xs[i]? = some x ∧ f x = some y
  | [], ys, h => by cases h; exact ⟨rfl, fun i y h => by simp at h⟩
  | x :: xs, ys, h => by
    unfold renL at h
    split at h
    · rename_i y hy
      split at h
      · rename_i ys' hys
        cases h
        obtain ⟨h1, h2⟩ := renL_at hys
        refine ⟨by simp [h1], fun i u hu => ?_⟩
        cases i with
        | zero => simp only [List.getElem?_cons_zero] at hu ⊢; cases hu; exact ⟨x, rfl, hy⟩
        | succ i => simp only [List.getElem?_cons_succ] at hu ⊢; exact h2 i u hu
      · cases h
    · cases h
theorem renL_rel {f : Value → Option Value} {r r' : Nat → Option (Nat × Nat)} (hf : ∀ v u y, f v = some u → VR r' v y → VR r u y) {xs ys zs : List Value} (h : renL f xs = some ys) (hr : LR r' xs zs) : LR r ys zs := by
  obtain ⟨h1, h2⟩ := renL_at h
  refine ⟨h1.symm.trans hr.1, fun i y z hy hz => ?_⟩
  obtain ⟨x, hx, hxy⟩ := h2 i y hy
  exact hf x y z hxy (hr.2 i x z hx hz)
theorem renA_some {ρ : Nat → Option Nat} {a b : Option Addr} (h : renA ρ a = some b) : ∃ c o d, a = some ⟨c, o, none⟩ ∧ b = some ⟨d, o, none⟩ ∧ ρ c = some d := by
  unfold renA at h
  split at h
  · split at h
    · cases h; rename_i hd; exact ⟨_, _, _, rfl, rfl, hd⟩
    · cases h
  · cases h
theorem renV_rel {ρ : Nat → Option Nat} {r r' : Nat → Option (Nat × Nat)} (hm : ∀ c a, ρ c = some a → a % 64 = c % 64) (hr : ∀ c a g, ρ c = some a → r' c = some g → r a = some g) : ∀ (k : Nat) (v u y : Value), renV ρ k v = some u → VR r' v y → VR r u y
  | 0, _, _, _, h, _ => by cases h
  | k + 1, v, u, y, h, hv => by
    have ih := fun v u y => renV_rel (ρ := ρ) (r := r) (r' := r') hm hr k v u y
    unfold renV at h
    cases ha : af 4 v with
    | true =>
      rw [ha] at h
      cases h
      rw [hv.eq ha]
      exact .same 4 _ ha
    | false =>
      rw [ha] at h
      simp only [cond_false] at h
      split at h
      · split at h
        · rename_i hA
          cases h
          obtain ⟨c, o, d, rfl, rfl, hd⟩ := renA_some hA
          obtain ⟨_, g, hg, rfl⟩ := hv.of_ptr
          exact .ptr d o g (hr _ _ _ hd hg)
        · cases h
      · split at h
        · rename_i hA
          cases h
          obtain ⟨c, o, d, rfl, rfl, hd⟩ := renA_some hA
          obtain ⟨_, g, c', hg, hc, ht, rfl⟩ := hv.of_slice
          exact .slice d o _ _ c' g (hr _ _ _ hd hg) hc (by rw [hm c d hd]; exact ht)
        · cases h
      · split at h
        · split at h
          · rename_i hd
            cases h
            obtain ⟨g, hg, rfl⟩ := hv.of_map
            exact .map _ g (hr _ _ _ hd hg)
          · cases h
        · cases h
      · split at h
        · rename_i hL
          cases h
          obtain ⟨zs, rfl, hz⟩ := hv.of_agg
          have := VR.agg' (renL_rel ih hL hz)
          simpa using this
        · cases h
      · split at h
        · rename_i hL
          cases h
          obtain ⟨zs, rfl, hz⟩ := hv.of_tuple
          have := VR.tuple' (renL_rel ih hL hz)
          simpa using this
        · cases h
      · rename_i f xs us
        cases hy : isYield f with
        | true => rw [hy] at h; cases h
        | false =>
          rw [hy] at h
          simp only [cond_false] at h
          split at h
          · rename_i hL
            split at h
            · rename_i hL2
              cases h
              obtain ⟨zs, vs, rfl, hz1, hz2⟩ := hv.of_func hy
              have := VR.func' _ hy (renL_rel ih hL hz1) (renL_rel ih hL2 hz2)
              simpa using this
            · cases h
          · cases h
      · split at h
        · rename_i hL
          cases h
          obtain ⟨z, rfl, hz⟩ := hv.of_iface
          exact .iface _ _ _ (ih _ _ _ hL hz)
        · cases h
      · cases h
        obtain ⟨rfl, a, c, rfl⟩ := hv.of_empty
        exact .empty a c
      · cases h

/-! ### Blocks and maps. -/
def renLK {β : Type} (ρ : Nat → Option Nat) : List Value → (List Value → Option β) → Option β
  | [], k => k []
  | x :: xs, k => match renV ρ 4 x with
    | some y => forceD 4 y fun y => renLK ρ xs fun ys => k (y :: ys)
    | none => none
theorem renLK_some {β : Type} {ρ : Nat → Option Nat} {c : β} : ∀ {l : List Value} {k : List Value → Option β}, renLK ρ l k = some c → ∃ m, renL (renV ρ 4) l = some m ∧ k m = some c
  | [], k, h => ⟨[], rfl, h⟩
  | x :: xs, k, h => by
    unfold renLK at h
    split at h
    · rename_i y hy
      rw [forceD_eq] at h
      obtain ⟨m, h1, h2⟩ := renLK_some h
      exact ⟨y :: m, by simp only [renL, hy, h1], h2⟩
    · cases h
def renB (ρ σ : Nat → Option Nat) : List (Nat × List Value) → Option (List (Nat × List Value))
  | [] => some []
  | p :: l => match σ p.1 with
    | some a => (match renL (renV ρ 4) p.2 with
      | some cs => (match renB ρ σ l with
        | some l => some ((a, cs) :: l)
        | none => none)
      | none => none)
    | none => none
def renBK {β : Type} (ρ σ : Nat → Option Nat) : List (Nat × List Value) → (List (Nat × List Value) → Option β) → Option β
  | [], k => k []
  | p :: l, k => match σ p.1 with
    | some a => forceN a fun a => renLK ρ p.2 fun cs => renBK ρ σ l fun l => k ((a, cs) :: l)
    | none => none
theorem renBK_some {β : Type} {ρ σ : Nat → Option Nat} {c : β} : ∀ {l : List (Nat × List Value)} {k : List (Nat × List Value) → Option β}, renBK ρ σ l k = some c → ∃ m, renB ρ σ l = some m ∧ k m = some c
  | [], k, h => ⟨[], rfl, h⟩
  | p :: l, k, h => by
    unfold renBK at h
    split at h
    · rename_i a ha
      rw [forceN_eq] at h
      obtain ⟨cs, h1, h2⟩ := renLK_some h
      obtain ⟨m, h3, h4⟩ := renBK_some h2
      exact ⟨(a, cs) :: m, by simp only [renB, ha, h1, h3], h4⟩
    · cases h
theorem renB_look {ρ σ : Nat → Option Nat} : ∀ {l m : List (Nat × List Value)} {i : Nat} {cs : List Value}, renB ρ σ l = some m → look m i = some cs → ∃ c ds, σ c = some i ∧ look l c = some ds ∧ renL (renV ρ 4) ds = some cs
  | [], m, i, cs, h, hl => by cases h; cases hl
  | (c, ds) :: l, m, i, cs, h, hl => by
    unfold renB at h
    split at h
    case h_2 => cases h
    rename_i a ha
    split at h
    case h_2 => cases h
    rename_i es hes
    split at h
    case h_2 => cases h
    rename_i m' hm'
    cases h
    rw [look_cons] at hl
    split at hl
    · rename_i e
      subst e
      cases hl
      exact ⟨c, ds, ha, by rw [look_cons, if_pos rfl], hes⟩
    · rename_i e
      obtain ⟨c', ds', h1, h2, h3⟩ := renB_look hm' hl
      have : c ≠ c' := fun e' => by
        subst e'
        have ha' : σ c = some a := ha
        rw [ha'] at h1; cases h1; exact e rfl
      exact ⟨c', ds', h1, by rw [look_cons, if_neg this]; exact h2, h3⟩
def renE (ρ : Nat → Option Nat) : List (Value × Value) → Option (List (Value × Value))
  | [] => some []
  | p :: l => match renV ρ 4 p.2 with
    | some v => (match renE ρ l with
      | some l => some ((p.1, v) :: l)
      | none => none)
    | none => none
def renEK {β : Type} (ρ : Nat → Option Nat) : List (Value × Value) → (List (Value × Value) → Option β) → Option β
  | [], k => k []
  | p :: l, k => match renV ρ 4 p.2 with
    | some v => forceD 4 v fun v => renEK ρ l fun l => k ((p.1, v) :: l)
    | none => none
theorem renEK_some {β : Type} {ρ : Nat → Option Nat} {c : β} : ∀ {l : List (Value × Value)} {k : List (Value × Value) → Option β}, renEK ρ l k = some c → ∃ m, renE ρ l = some m ∧ k m = some c
  | [], k, h => ⟨[], rfl, h⟩
  | p :: l, k, h => by
    unfold renEK at h
    split at h
    · rename_i v hv
      rw [forceD_eq] at h
      obtain ⟨m, h1, h2⟩ := renEK_some h
      exact ⟨(p.1, v) :: m, by simp only [renE, hv, h1], h2⟩
    · cases h
def renO (ρ σ : Nat → Option Nat) : List (Nat × AOb) → Option (List (Nat × AOb))
  | [] => some []
  | p :: l => match p.2 with
    | .map es => (match σ p.1 with
      | some a => (match renE ρ es with
        | some es => (match renO ρ σ l with
          | some l => some ((a, .map es) :: l)
          | none => none)
        | none => none)
      | none => none)
    | _ => none
def renOK {β : Type} (ρ σ : Nat → Option Nat) : List (Nat × AOb) → (List (Nat × AOb) → Option β) → Option β
  | [], k => k []
  | p :: l, k => match p.2 with
    | .map es => (match σ p.1 with
      | some a => forceN a fun a => renEK ρ es fun es => renOK ρ σ l fun l => k ((a, .map es) :: l)
      | none => none)
    | _ => none
theorem renOK_some {β : Type} {ρ σ : Nat → Option Nat} {c : β} : ∀ {l : List (Nat × AOb)} {k : List (Nat × AOb) → Option β}, renOK ρ σ l k = some c → ∃ m, renO ρ σ l = some m ∧ k m = some c
  | [], k, h => ⟨[], rfl, h⟩
  | (i, o) :: l, k, h => by
    cases o with
    | map es =>
      simp only [renOK] at h
      split at h
      · rename_i a ha
        rw [forceN_eq] at h
        obtain ⟨es', h1, h2⟩ := renEK_some h
        obtain ⟨m, h3, h4⟩ := renOK_some h2
        exact ⟨(a, .map es') :: m, by simp only [renO, ha, h1, h3], h4⟩
      · cases h
    | _ => simp only [renOK] at h; cases h
theorem renO_look {ρ σ : Nat → Option Nat} : ∀ {l m : List (Nat × AOb)} {i : Nat} {o : AOb}, renO ρ σ l = some m → look m i = some o → ∃ c es fs, σ c = some i ∧ look l c = some (.map es) ∧ renE ρ es = some fs ∧ o = .map fs
  | [], m, i, cs, h, hl => by cases h; cases hl
  | (c, o') :: l, m, i, o, h, hl => by
    cases o' with
    | map es =>
      simp only [renO] at h
      split at h
      case h_2 => cases h
      rename_i a ha
      split at h
      case h_2 => cases h
      rename_i fs hfs
      split at h
      case h_2 => cases h
      rename_i m' hm'
      cases h
      rw [look_cons] at hl
      split at hl
      · rename_i e
        subst e
        cases hl
        exact ⟨c, es, fs, ha, by rw [look_cons, if_pos rfl], hfs, rfl⟩
      · rename_i e
        obtain ⟨c', es', fs', h1, h2, h3, h4⟩ := renO_look hm' hl
        have : c ≠ c' := fun e' => by
          subst e'
          rw [ha] at h1; cases h1; exact e rfl
        exact ⟨c', es', fs', h1, by rw [look_cons, if_neg this]; exact h2, h3, h4⟩
    | _ => simp only [renO] at h; cases h
theorem renE_rel {ρ : Nat → Option Nat} {r r' : Nat → Option (Nat × Nat)} (hf : ∀ v u y, renV ρ 4 v = some u → VR r' v y → VR r u y) : ∀ {es fs : List (Value × Value)} {l : List MapEntry}, renE ρ es = some fs → EntsR r' es l → EntsR r fs l
  | [], fs, [], h, _ => by cases h; trivial
  | [], fs, _ :: _, _, hr => hr.elim
  | p :: es, fs, [], h, hr => hr.elim
  | p :: es, fs, e :: l, h, hr => by
    unfold renE at h
    split at h
    case h_2 => cases h
    rename_i v hv
    split at h
    case h_2 => cases h
    rename_i fs' hfs
    cases h
    exact ⟨⟨hr.1.1, hf _ _ _ hv hr.1.2⟩, renE_rel hf hfs hr.2⟩
/-! ### The known call's memory, held against what is here. -/
def fitB (σ : Sg) (G bl : List (Nat × List Value)) : List (Nat × List Value) → Bool
  | [] => true
  | p :: l => match look σ p.1 with
    | some a => (match look bl a with
      | some ds => beqL (sameV σ G 4) p.2 ds && fitB σ G bl l
      | none => false)
    | none => false
theorem fitB_look {σ : Sg} {G bl : List (Nat × List Value)} : ∀ {l : List (Nat × List Value)} {c : Nat} {cs : List Value}, fitB σ G bl l = true → look l c = some cs → ∃ a ds, look σ c = some a ∧ look bl a = some ds ∧ beqL (sameV σ G 4) cs ds = true
  | [], c, cs, _, hl => by cases hl
  | (i, es) :: l, c, cs, h, hl => by
    unfold fitB at h
    split at h
    case h_2 => cases h
    rename_i a ha
    split at h
    case h_2 => cases h
    rename_i ds hds
    simp only [Bool.and_eq_true] at h
    rw [look_cons] at hl
    split at hl
    · rename_i e; subst e; cases hl; exact ⟨a, ds, ha, hds, h.1⟩
    · exact fitB_look h.2 hl
def sameE (σ : Sg) (G : List (Nat × List Value)) : List (Value × Value) → List (Value × Value) → Bool
  | [], [] => true
  | p :: l, q :: m => (beqV 6 p.1 q.1 && sameV σ G 4 p.2 q.2) && sameE σ G l m
  | _, _ => false
def fitO (σ : Sg) (G : List (Nat × List Value)) (ob : List (Nat × AOb)) : List (Nat × AOb) → Bool
  | [] => true
  | p :: l => match p.2 with
    | .map es => (match look σ p.1 with
      | some a => (match look ob a with
        | some (.map fs) => sameE σ G es fs && fitO σ G ob l
        | _ => false)
      | none => false)
    | _ => false
theorem fitO_look {σ : Sg} {G : List (Nat × List Value)} {ob : List (Nat × AOb)} : ∀ {l : List (Nat × AOb)} {c : Nat} {o : AOb}, fitO σ G ob l = true → look l c = some o → ∃ a es fs, o = .map es ∧ look σ c = some a ∧ look ob a = some (.map fs) ∧ sameE σ G es fs = true
  | [], c, cs, _, hl => by cases hl
  | (i, o') :: l, c, o, h, hl => by
    cases o' with
    | map es =>
      simp only [fitO] at h
      split at h
      case h_2 => cases h
      rename_i a ha
      split at h
      case h_2 => cases h
      rename_i fs hfs
      simp only [Bool.and_eq_true] at h
      rw [look_cons] at hl
      split at hl
      · rename_i e; subst e; cases hl; exact ⟨a, es, fs, rfl, ha, hfs, h.1⟩
      · exact fitO_look h.2 hl
    | _ => simp only [fitO] at h; cases h
theorem sameE_rel {σ : Sg} {G : List (Nat × List Value)} {ρ : Nat → Option Nat} {r : Nat → Option (Nat × Nat)} (hp : ∀ v u y, sameV σ G 4 v u = true → VR r u y → VR (viaR ρ r) v y) : ∀ {es fs : List (Value × Value)} {l : List MapEntry}, sameE σ G es fs = true → EntsR r fs l → EntsR (viaR ρ r) es l
  | [], [], [], _, _ => trivial
  | [], [], _ :: _, _, hr => hr.elim
  | _ :: _, [], _, h, _ => by cases h
  | [], _ :: _, _, h, _ => by cases h
  | p :: es, q :: fs, [], _, hr => hr.elim
  | p :: es, q :: fs, e :: l, h, hr => by
    simp only [sameE, Bool.and_eq_true] at h
    exact ⟨⟨by rw [beqV_eq 6 _ _ h.1.1]; exact hr.1.1, hp _ _ _ h.1.2 hr.1.2⟩, sameE_rel hp h.2 hr.2⟩
/-- The names, one by one. -/
def someB {α : Type} : Option α → Bool
  | some _ => true
  | none => false
def okS (G : List (Nat × List Value)) (qn qlo : Nat) (M : Mem) : Sg → Bool
  | [] => true
  | p :: s => ((someB (look G p.1) || someB (look G p.2)) == false) && ((Nat.blt p.1 (64 * qn) && Nat.beq (p.1 % 64) (p.2 % 64)) && (((Nat.blt p.1 qlo || Nat.ble M.lo p.2) && (someB (look M.bl p.2) || someB (look M.ob p.2))) && (!(s.any fun q => Nat.beq q.2 p.2) && okS G qn qlo M s)))
def okG (qlo : Nat) : List (Nat × List Value) → Bool
  | [] => true
  | p :: l => Nat.blt p.1 qlo && okG qlo l
theorem okG_look {qlo : Nat} : ∀ {l : List (Nat × List Value)} {i : Nat} {cs : List Value}, okG qlo l = true → look l i = some cs → i < qlo
  | [], _, _, _, h => by cases h
  | (j, ds) :: l, i, cs, h, hl => by
    simp only [okG, Bool.and_eq_true] at h
    rw [look_cons] at hl
    split at hl
    · rename_i e; subst e; exact Nat.le_of_ble_eq_true h.1
    · exact okG_look h.2 hl
theorem look_mem' {α : Type} : ∀ {l : List (Nat × α)} {i : Nat} {c : α}, look l i = some c → (i, c) ∈ l
  | [], i, c, h => by cases h
  | (k, d) :: l, i, c, h => by
    rw [look_cons] at h
    split at h
    · rename_i e; subst e; cases h; exact List.mem_cons_self
    · exact List.mem_cons_of_mem _ (look_mem' h)
structure SOk (G : List (Nat × List Value)) (qn qlo : Nat) (M : Mem) (c a : Nat) : Prop where
  gc : look G c = none
  ga : look G a = none
  lt : c < 64 * qn
  tag : c % 64 = a % 64
  lo : qlo ≤ c → M.lo ≤ a
  here : (∃ ds, look M.bl a = some ds) ∨ ∃ o, look M.ob a = some o
theorem someB_none {α : Type} {x : Option α} (h : someB x = false) : x = none := by cases x <;> first | rfl | cases h
theorem someB_some {α : Type} {x : Option α} (h : someB x = true) : ∃ y, x = some y := by cases x with | none => cases h | some y => exact ⟨y, rfl⟩
theorem okS_mem {G : List (Nat × List Value)} {qn qlo : Nat} {M : Mem} : ∀ {σ : Sg} {c a : Nat}, okS G qn qlo M σ = true → (c, a) ∈ σ → SOk G qn qlo M c a
  | p :: s, c, a, h, hm => by
    simp only [okS, Bool.and_eq_true, Bool.or_eq_true, beq_iff_eq, Bool.or_eq_false_iff, Bool.not_eq_true'] at h
    obtain ⟨⟨h1, h2⟩, ⟨h3, h4⟩, ⟨h5, h6⟩, _, h8⟩ := h
    rcases List.mem_cons.1 hm with e | e
    · subst e
      refine ⟨someB_none h1, someB_none h2, Nat.le_of_ble_eq_true h3, Nat.eq_of_beq_eq_true h4, fun hq => ?_, ?_⟩
      · rcases h5 with h5 | h5
        · have : c < qlo := Nat.le_of_ble_eq_true h5
          omega
        · exact Nat.le_of_ble_eq_true h5
      · rcases h6 with h6 | h6
        · exact .inl (someB_some h6)
        · exact .inr (someB_some h6)
    · exact okS_mem h8 e
theorem okS_inj {G : List (Nat × List Value)} {qn qlo : Nat} {M : Mem} : ∀ {σ : Sg} {c d a : Nat}, okS G qn qlo M σ = true → (c, a) ∈ σ → (d, a) ∈ σ → c = d
  | p :: s, c, d, a, h, hc, hd => by
    simp only [okS, Bool.and_eq_true, Bool.not_eq_true'] at h
    obtain ⟨_, _, _, h7, h8⟩ := h
    have far : ∀ {e : Nat}, (e, p.2) ∈ s → False := fun {e} hm => by
      have := List.any_eq_false.1 h7 _ hm
      simp at this
    rcases List.mem_cons.1 hc with e | e <;> rcases List.mem_cons.1 hd with e' | e'
    · rw [← e] at e'; cases e'; rfl
    · subst e; exact (far e').elim
    · subst e'; exact (far e).elim
    · exact okS_inj h8 e e'

/-! ### The known call, here. -/
def fitsE (σ : Sg) (q : KC) (xs : List Value) (M : Mem) : Bool :=
  bif beqL (sameV σ M.gl 4) q.xs xs then bif fitB σ M.gl M.bl q.bl then bif fitO σ M.gl M.ob q.ob then bif okS M.gl q.next q.lo M σ then Nat.ble q.lo (64 * q.next) && okG q.lo M.gl else false else false else false else false
def movedE (σ : Sg) (q : KC) (M : Mem) : Option CR := match M with
  | ⟨n, lo, _, gl, _⟩ => match renV (renI σ gl q.next n) 4 q.v with
    | some v => forceD 4 v fun v => renBK (renI σ gl q.next n) (renJ σ q.next n) q.bl' fun bl => renOK (renI σ gl q.next n) (renJ σ q.next n) q.ob' fun ob => appK bl gl fun bl => forceN (q.next' - q.next + n) fun next => some (.ret v ⟨next, lo, bl, gl, ob⟩)
    | none => none
theorem moved_sound {P : Program} {G : List (Nat × List Value)} {q : KC} (hq : KnownC P G q) {r : Nat → Option (Nat × Nat)} {M : Mem} {w : World} {xs ys : List Value} {σ : Sg} {c : CR} (hf : fitsE σ q xs M = true) (hv : movedE σ q M = some c)
    (hx : LR r xs ys) (hM : MR r M w) (hG : M.gl = G) : Calls P q.f ys.toArray w (Gives r M w c) := by
  obtain ⟨n, lo, bl, gl, ob⟩ := M
  simp only at hG
  subst hG
  unfold fitsE at hf
  -- what is held
  have hf' : beqL (sameV σ gl 4) q.xs xs = true ∧ fitB σ gl bl q.bl = true ∧ fitO σ gl ob q.ob = true ∧ okS gl q.next q.lo ⟨n, lo, bl, gl, ob⟩ σ = true ∧ Nat.ble q.lo (64 * q.next) = true ∧ okG q.lo gl = true := by
    revert hf
    cases beqL (sameV σ gl 4) q.xs xs <;> cases fitB σ gl bl q.bl <;> cases fitO σ gl ob q.ob <;> cases okS gl q.next q.lo ⟨n, lo, bl, gl, ob⟩ σ <;> simp
  obtain ⟨f1, f2, f3, f4, f5, f6⟩ := hf'
  have f5 := Nat.le_of_ble_eq_true f5
  have sok : ∀ {c a : Nat}, look σ c = some a → SOk gl q.next q.lo ⟨n, lo, bl, gl, ob⟩ c a := fun h => okS_mem f4 (look_mem' h)
  have glN : ∀ {i : Nat} {cs : List Value}, look gl i = some cs → i < 64 * n := fun h => hM.globlt h
  -- the names
  have J : ∀ {c a : Nat}, renJ σ q.next n c = some a → (look σ c = some a) ∨ (look σ c = none ∧ 64 * q.next ≤ c ∧ a = c - 64 * q.next + 64 * n) := fun {c a} h => by
    unfold renJ at h
    split at h
    · rename_i b hb; cases h; exact .inl hb
    · rename_i hb
      cases hl : Nat.ble (64 * q.next) c with
      | false => rw [hl] at h; cases h
      | true => rw [hl] at h; cases h; exact .inr ⟨hb, Nat.le_of_ble_eq_true hl, rfl⟩
  have I : ∀ {c a : Nat}, renI σ gl q.next n c = some a → (∃ cs, look gl c = some cs ∧ a = c) ∨ (look gl c = none ∧ renJ σ q.next n c = some a) := fun {c a} h => by
    unfold renI at h
    split at h
    · rename_i cs hc; cases h; exact .inl ⟨cs, hc, rfl⟩
    · rename_i hc; exact .inr ⟨hc, h⟩
  have Iσ : ∀ {c a : Nat}, look σ c = some a → renI σ gl q.next n c = some a := fun {c a} h => by
    unfold renI renJ
    rw [(sok h).gc, h]
  have Ig : ∀ {c : Nat} {cs : List Value}, look gl c = some cs → renI σ gl q.next n c = some c := fun {c cs} h => by
    unfold renI
    rw [h]
  have IJ : ∀ {c a : Nat}, renJ σ q.next n c = some a → renI σ gl q.next n c = some a := fun {c a} h => by
    rcases J h with k | ⟨k1, k2, k3⟩
    · exact Iσ k
    · cases hg : look gl c with
      | none => unfold renI; rw [hg]; exact h
      | some cs =>
        have := okG_look f6 hg
        omega
  have tag : ∀ c a, renI σ gl q.next n c = some a → a % 64 = c % 64 := fun c a h => by
    rcases I h with ⟨_, _, rfl⟩ | ⟨_, h⟩
    · rfl
    · rcases J h with k | ⟨_, k2, k3⟩
      · exact (sok k).tag.symm
      · omega
  have inj : ∀ {c d a : Nat}, renI σ gl q.next n c = some a → renI σ gl q.next n d = some a → a < 64 * n → c = d := fun {c d a} hc hd ha => by
    rcases I hc with ⟨cs, h1, rfl⟩ | ⟨h1, h2⟩ <;> rcases I hd with ⟨ds, k1, k2⟩ | ⟨k1, k2⟩
    · exact k2
    · rcases J k2 with k | ⟨_, k, k3⟩
      · have := (sok k).ga; rw [h1] at this; cases this
      · omega
    · subst k2
      rcases J h2 with k | ⟨_, k, k3⟩
      · have := (sok k).ga; rw [k1] at this; cases this
      · omega
    · rcases J h2 with h | ⟨_, h, h3⟩ <;> rcases J k2 with k | ⟨_, k, k3⟩
      · exact okS_inj f4 (look_mem' h) (look_mem' k)
      · omega
      · omega
      · omega
  have here : ∀ {c a : Nat}, look σ c = some a → ∃ g, r a = some g := fun {c a} h => by
    rcases (sok h).here with ⟨ds, k⟩ | ⟨o, k⟩
    · obtain ⟨g, _, _, h1, _⟩ := hM.blk a ds k; exact ⟨g, h1⟩
    · obtain ⟨g, _, h1, _⟩ := hM.obj a o k; exact ⟨g, h1⟩
  have rel : ∀ v u y, sameV σ gl 4 v u = true → VR r u y → VR (viaR (renI σ gl q.next n) r) v y := fun v u y => sameV_rel tag 4 v u y
  -- a block of the known call is one that is here
  have blkAt : ∀ {i : Nat} {cs : List Value}, look (q.bl ++ gl) i = some cs → ∃ a ds, renI σ gl q.next n i = some a ∧ look bl a = some ds ∧ (q.lo ≤ i → lo ≤ a) ∧ ∀ (j : Nat) v, cs[j]? = some v → ∃ u, ds[j]? = some u ∧ ∀ y, VR r u y → VR (viaR (renI σ gl q.next n) r) v y := fun {i cs} h => by
    rw [look_append] at h
    cases hl : look q.bl i with
    | some es =>
      rw [hl] at h; cases h
      obtain ⟨a, ds, h1, h2, h3⟩ := fitB_look f2 hl
      exact ⟨a, ds, Iσ h1, h2, (sok h1).lo, fun j v hj => by
        obtain ⟨u, hu, hvu⟩ := (beqL_at h3).2 j v hj
        exact ⟨u, hu, fun y => rel v u y hvu⟩⟩
    | none =>
      rw [hl] at h
      simp only [Option.none_or] at h
      have h2 := hM.glob i cs h
      exact ⟨i, cs, Ig h, h2.2.1, fun hle => (by have := okG_look f6 h; omega), fun j v hj => ⟨v, hj, fun y hy => by
        have hav := List.all_eq_true.1 h2.2.2.2 v (List.mem_of_getElem? hj)
        rw [hy.eq hav]; exact .same 1 _ hav⟩⟩
  have obAt : ∀ {i : Nat} {o : AOb}, look q.ob i = some o → ∃ a es fs, o = .map es ∧ renI σ gl q.next n i = some a ∧ look ob a = some (.map fs) ∧ sameE σ gl es fs = true := fun {i o} h => by
    obtain ⟨a, es, fs, h1, h2, h3, h4⟩ := fitO_look f3 h
    exact ⟨a, es, fs, h1, Iσ h2, h3, h4⟩
  have via : ∀ {c a : Nat} {g : Nat × Nat}, renI σ gl q.next n c = some a → viaR (renI σ gl q.next n) r c = some g → r a = some g := fun {c a g} h hr => by
    obtain ⟨b, h1, h2⟩ := viaR_some hr
    rw [h] at h1; cases h1; exact h2
  have noBl : ∀ {i : Nat} {cs : List Value}, look gl i = some cs → look q.bl i = none := fun {i cs} h => by
    cases hl : look q.bl i with
    | none => rfl
    | some es =>
      obtain ⟨a, ds, h1, _⟩ := fitB_look f2 hl
      have := (sok h1).gc
      rw [h] at this; cases this
  -- the memory that the known call asks
  have hMc : MR (viaR (renI σ gl q.next n) r) (q.mem gl) w := by
    refine ⟨fun i cs hl => ?_, fun i j cs ds g h hi hj hgi hgj e => ?_, fun i g hi => ?_, fun i cs hl => ?_, fun i o hl => ?_, fun i j o p g h hi hj hgi hgj e => ?_⟩
    · obtain ⟨a, ds, h1, h2, _, h3⟩ := blkAt hl
      obtain ⟨g, t, cc, k1, k2, k3, k4⟩ := hM.blk a ds h2
      refine ⟨g, t, cc, viaR_of h1 k1, k2, fun hz => k3 (by rw [tag i a h1]; exact hz), fun j v hj => ?_⟩
      obtain ⟨u, hu, hvu⟩ := h3 j v hj
      obtain ⟨v', m1, m2⟩ := k4 j u hu
      exact ⟨v', m1, hvu v' m2⟩
    · obtain ⟨a, as, h1, h2, _⟩ := blkAt hi
      obtain ⟨b, bs, k1, k2, _⟩ := blkAt hj
      have ha := via h1 hgi
      have hb := via k1 hgj
      have := hM.inj a b as bs g h h2 k2 ha hb e
      subst this
      exact inj h1 k1 (hM.bound _ _ ha)
    · obtain ⟨a, h1, h2⟩ := viaR_some hi
      have hb := hM.bound _ _ h2
      show i < 64 * q.next
      rcases I h1 with ⟨cs, k1, rfl⟩ | ⟨_, k⟩
      · have := okG_look f6 k1; omega
      · rcases J k with k | ⟨_, k1, k2⟩
        · exact (sok k).lt
        · simp only at hb; omega
    · have h1 := hM.glob i cs hl
      obtain ⟨s, hs⟩ := h1.2.2.1
      exact ⟨okG_look f6 hl, by show look (q.bl ++ gl) i = some cs; rw [look_append, noBl hl]; exact hl, ⟨s, viaR_of (Ig hl) hs⟩, h1.2.2.2⟩
    · obtain ⟨a, es, fs, rfl, h1, h2, h3⟩ := obAt hl
      obtain ⟨g, h, k1, k2, ents, clock, k3, k4⟩ := hM.obj a _ h2
      exact ⟨g, h, viaR_of h1 k1, k2, ents, clock, k3, sameE_rel rel h3 k4⟩
    · obtain ⟨a, _, fs, _, h1, h2, _⟩ := obAt hi
      obtain ⟨b, _, fs', _, k1, k2, _⟩ := obAt hj
      have ha := via h1 hgi
      have hb := via k1 hgj
      have := hM.injO a b _ _ g h h2 k2 ha hb e
      subst this
      exact inj h1 k1 (hM.bound _ _ ha)
  -- what comes back
  unfold movedE at hv
  simp only at hv
  split at hv
  case h_2 => cases hv
  rename_i v hrv
  rw [forceD_eq] at hv
  obtain ⟨bl1, hb1, hv⟩ := renBK_some hv
  obtain ⟨ob1, ho1, hv⟩ := renOK_some hv
  rw [appK_eq, forceN_eq] at hv
  cases hv
  refine (hq _ ys w (sameL_rel rel f1 hx) hMc).mono fun e w' ⟨v', rc, he, hvr, hm, hs⟩ => ?_
  obtain ⟨r', hr'⟩ : ∃ r' : Nat → Option (Nat × Nat), ∀ a, r' a = if a < 64 * n then r a else rc (a - 64 * n + 64 * q.next) := ⟨_, fun _ => rfl⟩
  have hnx : q.next ≤ q.next' := hs.next
  have ext : ∀ i g, r i = some g → r' i = some g := fun i g h => by
    have := hM.bound i g h
    rw [hr', if_pos this]; exact h
  have H : ∀ c a g, renI σ gl q.next n c = some a → rc c = some g → r' a = some g := fun c a g h hc => by
    have old : ∀ {g0}, r a = some g0 → r' a = some g := fun {g0} h0 => by
      have := hs.ext _ _ (viaR_of h h0)
      rw [hc] at this; cases this
      exact ext _ _ h0
    rcases I h with ⟨cs, k1, rfl⟩ | ⟨_, k⟩
    · obtain ⟨s, k2⟩ := (hM.glob _ cs k1).2.2.1
      exact old k2
    · rcases J k with k | ⟨_, k1, k2⟩
      · obtain ⟨g0, k2⟩ := here k
        exact old k2
      · rw [hr', if_neg (by omega), show a - 64 * n + 64 * q.next = c by omega]
        exact hc
  have back : ∀ v u y, renV (renI σ gl q.next n) 4 v = some u → VR rc v y → VR r' u y := fun v u y => renV_rel tag H 4 v u y
  have gl' : ∀ {i cs}, look gl i = some cs → look (q.bl' ++ gl) i = some cs := fun {i cs} h => (hm.glob i cs h).2.1
  -- a block behind the call
  have blkB : ∀ {i : Nat} {cs : List Value}, look (bl1 ++ gl) i = some cs → ∃ c ds, renI σ gl q.next n c = some i ∧ look (q.bl' ++ gl) c = some ds ∧ ((∃ ks, look gl i = some ks ∧ c = i) ∨ (look gl c = none ∧ renJ σ q.next n c = some i)) ∧ ∀ (j : Nat) v, cs[j]? = some v → ∃ u, ds[j]? = some u ∧ ∀ y, VR rc u y → VR r' v y := fun {i cs} h => by
    rw [look_append] at h
    cases hl : look bl1 i with
    | some es =>
      rw [hl] at h; cases h
      obtain ⟨c, ds, h1, h2, h3⟩ := renB_look hb1 hl
      have hg : look gl c = none := by
        cases hg : look gl c with
        | none => rfl
        | some ks =>
          rcases J h1 with k | ⟨_, k1, k2⟩
          · have := (sok k).gc; rw [hg] at this; cases this
          · have := okG_look f6 hg; omega
      refine ⟨c, ds, IJ h1, by rw [look_append, h2]; rfl, .inr ⟨hg, h1⟩, fun j v hj => ?_⟩
      obtain ⟨u, hu, huv⟩ := (renL_at h3).2 j v hj
      exact ⟨u, hu, fun y => back u v y huv⟩
    | none =>
      rw [hl] at h
      simp only [Option.none_or] at h
      refine ⟨i, cs, Ig h, gl' h, .inl ⟨cs, h, rfl⟩, fun j v hj => ⟨v, hj, fun y hy => ?_⟩⟩
      have hav := List.all_eq_true.1 (hM.glob i cs h).2.2.2 v (List.mem_of_getElem? hj)
      rw [hy.eq hav]; exact .same 1 _ hav
  have val : ∀ {c i : Nat} {ds : List Value} {g : Nat × Nat}, renI σ gl q.next n c = some i → look (q.bl' ++ gl) c = some ds → r' i = some g → rc c = some g := fun {c i ds g} h h1 h2 => by
    obtain ⟨g', _, _, k, _⟩ := hm.blk c ds h1
    have := H c i g' h k
    rw [h2] at this; cases this; exact k
  have valO : ∀ {c i : Nat} {o : AOb} {g : Nat × Nat}, renI σ gl q.next n c = some i → look q.ob' c = some o → r' i = some g → rc c = some g := fun {c i o g} h h1 h2 => by
    obtain ⟨g', _, k, _⟩ := hm.obj c o h1
    have := H c i g' h k
    rw [h2] at this; cases this; exact k
  have oldB : ∀ {i : Nat} {cs : List Value}, look (bl1 ++ gl) i = some cs → i < 64 * n → ∃ ds, look bl i = some ds := fun {i cs} h hi => by
    obtain ⟨c, ds, h1, h2, h3, _⟩ := blkB h
    rcases h3 with ⟨ks, h3, rfl⟩ | ⟨hg, h3⟩
    · exact ⟨ks, (hM.glob _ ks h3).2.1⟩
    · rcases J h3 with k | ⟨_, k1, k2⟩
      · obtain ⟨es, k2⟩ := hs.old c ds h2 (sok k).lt
        have k2' : look (q.bl ++ gl) c = some es := k2
        obtain ⟨a, as, k3, k4, _⟩ := blkAt k2'
        have := Iσ k
        rw [k3] at this; cases this
        exact ⟨as, k4⟩
      · omega
  refine ⟨v', r', he, back _ _ _ hrv hvr, ⟨fun i cs hl => ?_, fun i j cs ds g h hi hj hgi hgj e => ?_, fun i g hi => ?_, fun i cs hl => ?_, fun i o hl => ?_, fun i j o p g h hi hj hgi hgj e => ?_⟩, ⟨ext, rfl, by show n ≤ q.next' - q.next + n; omega, fun i cs hl hi => oldB hl hi, hs.os, hs.tape, hs.output, hs.size, fun k hk hn hn' => ?_, fun i cs g hlo hl hi hg => ?_, rfl, fun i o g hl hi hg => ?_⟩⟩
  · obtain ⟨c, ds, h1, h2, _, h3⟩ := blkB hl
    obtain ⟨g, t, cc, k1, k2, k3, k4⟩ := hm.blk c ds h2
    refine ⟨g, t, cc, H c i g h1 k1, k2, fun hz => k3 (by rw [← tag c i h1]; exact hz), fun j v hj => ?_⟩
    obtain ⟨u, hu, huv⟩ := h3 j v hj
    obtain ⟨y, m1, m2⟩ := k4 j u hu
    exact ⟨y, m1, huv y m2⟩
  · obtain ⟨c, cs', h1, h2, _⟩ := blkB hi
    obtain ⟨d, ds', k1, k2, _⟩ := blkB hj
    have := hm.inj c d cs' ds' g h h2 k2 (val h1 h2 hgi) (val k1 k2 hgj) e
    subst this
    rw [h1] at k1; cases k1; rfl
  · show i < 64 * (q.next' - q.next + n)
    rw [hr'] at hi
    split at hi
    · omega
    · have : i - 64 * n + 64 * q.next < 64 * q.next' := hm.bound _ _ hi
      omega
  · have h1 := hM.glob i cs hl
    obtain ⟨s, h2⟩ := h1.2.2.1
    refine ⟨h1.1, ?_, ⟨s, ext _ _ h2⟩, h1.2.2.2⟩
    show look (bl1 ++ gl) i = some cs
    rw [look_append]
    cases hl1 : look bl1 i with
    | none => exact hl
    | some es =>
      obtain ⟨c, ds, k1, _⟩ := renB_look hb1 hl1
      have := glN hl
      rcases J k1 with k | ⟨_, k2, k3⟩
      · have := (sok k).ga; rw [hl] at this; cases this
      · omega
  · obtain ⟨c, es, fs, h1, h2, h3, rfl⟩ := renO_look ho1 hl
    obtain ⟨g, h, k1, k2, ents, clock, k3, k4⟩ := hm.obj c _ h2
    exact ⟨g, h, H c i g (IJ h1) k1, k2, ents, clock, k3, renE_rel back h3 k4⟩
  · obtain ⟨c, es, fs, h1, h2, _⟩ := renO_look ho1 hi
    obtain ⟨d, es', fs', k1, k2, _⟩ := renO_look ho1 hj
    have := hm.injO c d _ _ g h h2 k2 (valO (IJ h1) h2 hgi) (valO (IJ k1) k2 hgj) e
    subst this
    rw [h1] at k1; cases k1; rfl
  · refine hs.keep k hk (fun c cs g hlo hl hc => ?_) fun c o g hl hc => ?_
    · obtain ⟨a, ds, h1, h2, h3, _⟩ := blkAt hl
      exact hn a ds g (h3 hlo) h2 (via h1 hc)
    · obtain ⟨a, es, fs, _, h1, h2, _⟩ := obAt hl
      exact hn' a _ g h2 (via h1 hc)
  · have hlo' : lo ≤ i := hlo
    obtain ⟨c, ds, h1, h2, h3, _⟩ := blkB hl
    have hc := val h1 h2 hi
    rcases h3 with ⟨ks, h3, rfl⟩ | ⟨hg', h3⟩
    · have := (hM.glob _ ks h3).1
      simp only at this
      omega
    · rcases Nat.lt_or_ge c q.lo with hcl | hcl
      · rcases J h3 with k | ⟨_, k1, k2⟩
        · obtain ⟨g0, k1⟩ := here k
          have k2 := ext _ _ k1
          rw [hi] at k2; cases k2
          obtain ⟨ds', k3⟩ := oldB hl (hM.bound _ _ k1)
          exact ⟨i, ds', _, hlo', k3, k1, rfl⟩
        · omega
      · obtain ⟨j, es, h, k1, k2, k3, k4⟩ := hs.anc c ds g (by rw [hs.lo]; exact hcl) h2 hc hg
        obtain ⟨a, as, m1, m2, m3, _⟩ := blkAt k2
        exact ⟨a, as, h, m3 k1, m2, via m1 k3, k4⟩
  · obtain ⟨c, es, fs, h1, h2, _⟩ := renO_look ho1 hl
    obtain ⟨j, p, h, k1, k2, k3⟩ := hs.ancO c _ g h2 (valO (IJ h1) h2 hi) hg
    obtain ⟨a, _, fs', _, m1, m2, _⟩ := obAt k1
    exact ⟨a, _, h, m2, via m1 k2, k3⟩

/-! ### The table of known calls, asked. -/
/-- The names of the blocks that a call leads to, in the order in which they were met. -/
def sigK {β : Type} (gl bl : List (Nat × List Value)) (ob : List (Nat × AOb)) : List Nat → Nat → (Sg → β) → β
  | [], _, k => k []
  | a :: R, j, k => match look gl a with
    | some _ => sigK gl bl ob R j k
    | none => bif someB (look bl a) || someB (look ob a) then forceN (64 * j + a % 64) fun c => sigK gl bl ob R (j + 1) fun s => k ((c, a) :: s) else sigK gl bl ob R j k
def hashR (gl bl : List (Nat × List Value)) : List Nat → Nat → Nat
  | [], acc => acc
  | a :: R, acc => match look gl a with
    | some _ => hashR gl bl R acc
    | none => match look bl a with
      | some (v :: _) => forceN ((acc * 31 + hashX 4 v) % 65521) fun acc => hashR gl bl R acc
      | _ => hashR gl bl R acc
def lookR : List KC → FuncId → List Value → Sg → Mem → Option CR
  | [], _, _, _, _ => none
  | q :: l, f, xs, σ, M => bif Nat.beq q.f f then bif fitsE σ q xs M then movedE σ q M else lookR l f xs σ M else lookR l f xs σ M
def findE (T : HT KC) (f : FuncId) (xs : List Value) (R : List Nat) (M : Mem) : Option CR := match R with
  | [] => none
  | _ => match M with
    | ⟨n, lo, bl, gl, ob⟩ => (match HT.get 10 (hashR gl bl R (hashF f xs)) T with
      | [] => none
      | q :: l => sigK gl bl ob R 1000 fun σ => lookR (q :: l) f xs σ ⟨n, lo, bl, gl, ob⟩)
theorem sigK_some {β : Type} {gl bl : List (Nat × List Value)} {ob : List (Nat × AOb)} : ∀ (R : List Nat) (j : Nat) (k : Sg → β), ∃ σ, sigK gl bl ob R j k = k σ
  | [], j, k => ⟨[], rfl⟩
  | a :: R, j, k => by
    unfold sigK
    split
    · exact sigK_some R j k
    · cases (someB (look bl a) || someB (look ob a)) with
      | true => rw [forceN_eq]; obtain ⟨σ, h⟩ := sigK_some R (j + 1) fun s => k ((64 * j + a % 64, a) :: s); exact ⟨_, h⟩
      | false => exact sigK_some R j k
theorem lookR_sound {f : FuncId} {xs : List Value} {σ : Sg} {M : Mem} {c : CR} : ∀ {l : List KC}, lookR l f xs σ M = some c → ∃ q ∈ l, q.f = f ∧ fitsE σ q xs M = true ∧ movedE σ q M = some c
  | [], h => by cases h
  | q :: l, h => by
    simp only [lookR] at h
    have more : lookR l f xs σ M = some c → ∃ q' ∈ q :: l, q'.f = f ∧ fitsE σ q' xs M = true ∧ movedE σ q' M = some c := fun h => by
      obtain ⟨q', h1, h2⟩ := lookR_sound h
      exact ⟨q', List.mem_cons_of_mem _ h1, h2⟩
    cases h1 : Nat.beq q.f f with
    | false => rw [h1] at h; exact more h
    | true =>
      rw [h1] at h
      cases h2 : fitsE σ q xs M with
      | false => rw [h2] at h; exact more h
      | true => rw [h2] at h; exact ⟨q, List.mem_cons_self, Nat.eq_of_beq_eq_true h1, h2, h⟩
theorem findE_sound {T : HT KC} {f : FuncId} {xs : List Value} {R : List Nat} {M : Mem} {c : CR} (h : findE T f xs R M = some c) : ∃ q σ, T.Has q ∧ q.f = f ∧ fitsE σ q xs M = true ∧ movedE σ q M = some c := by
  unfold findE at h
  split at h
  · cases h
  · obtain ⟨n, lo, bl, gl, ob⟩ := M
    simp only at h
    split at h
    · cases h
    · rename_i q l hg
      obtain ⟨σ, hσ⟩ := sigK_some (β := Option CR) (gl := gl) (bl := bl) (ob := ob) R 1000 fun σ => lookR (q :: l) f xs σ ⟨n, lo, bl, gl, ob⟩
      rw [hσ] at h
      obtain ⟨q', h1, h2, h3, h4⟩ := lookR_sound h
      exact ⟨q', σ, HT.get_has _ _ _ (by rw [hg]; exact h1), h2, h3, h4⟩

/-! ### One operation, a call or not. -/
def opE (P : Program) (T : Tab) (self : Self) (env : Env) (M : Mem) (o : Oper) : Option CR := match calleeA P env o with
  | some (f, fn, b, xs) => match lookT (HT.get 8 (hashA f xs) T.k) f xs with
    | some v => some (.ret v M)
    | none => match env with | ⟨_, _, gs, _, _⟩ => frameE M xs fun R M => (match findE T.c f xs R M with
      | some c => some c
      | none => callE P self gs fn b xs M)
  | none => match opT P env M o with
    | some (v, M') => some (.ret v M')
    | none => match panicA env o with
      | some v => some (.pan [{ v, recovered := false }] M)
      | none => none
theorem opE_run {P : Program} (hN : noRoutines P) {G : List (Nat × List Value)} {T : Tab} (hT : TOk P G T) {self : Self} (hself : SelfOk P G self) {env : Env} {M : Mem} {o : Oper} {c : CR} {r : Nat → Option (Nat × Nat)} {a : Act} {w : World} (h : opE P T self env M o = some c)
    (he : ER r env a.tmps) (hM : MR r M w) (hG : M.gl = G) :
    (∃ v M' r' v' w', c = .ret v M' ∧ Out P (execOp a.eval o) w r M v M' r' v' w') ∨ (∃ f ys, (execOp a.eval o).run P w = .ok (.enter f ys) w ∧ Calls P f ys w (Gives r M w c)) ∨ ∃ v, c = .pan [{ v, recovered := false }] M ∧ (execOp a.eval o).run P w = .halt (.panic v) w := by
  unfold opE at h
  cases hc : calleeA P env o with
  | some q =>
    obtain ⟨f, fn, b, xs⟩ := q
    rw [hc] at h
    obtain ⟨ys, h1, h2, h3, h4⟩ := callee_sound hN w hc he
    refine .inr (.inl ⟨f, ys.toArray, h1, ?_⟩)
    simp only at h
    cases hk : lookT (HT.get 8 (hashA f xs) T.k) f xs with
    | some u =>
      rw [hk] at h; cases h
      obtain ⟨k1, k2, k3⟩ := lookT_sound (fun q hq => hT.1 q (HT.get_has _ _ _ hq)) hk
      rw [h2.eq k1]
      refine (k3 w (by rw [← hG]; exact hM.gl)).mono fun e w' ⟨he', hb⟩ => ?_
      subst he'
      obtain ⟨s1, s2⟩ := same_rel hM hb
      exact ⟨_, r, rfl, .same 4 _ k2, s1, s2⟩
    | none =>
      rw [hk] at h
      simp only at h
      refine frame_sound (G := G) (fun R M c h hM hG => ?_) hM hG h
      split at h
      · rename_i c' hlc
        cases h
        obtain ⟨q, σ, hq, rfl, hf, hv⟩ := findE_sound hlc
        exact moved_sound (hT.2 q hq) hf hv h2 hM hG
      · exact call_sound hN hself h3 h4 h2 hM hG he.3 h
  | none =>
    rw [hc] at h
    simp only at h
    cases ht : opT P env M o with
    | some q =>
      obtain ⟨v, M'⟩ := q
      rw [ht] at h; cases h
      obtain ⟨r', v', w', ho⟩ := opT_sound ht he hM
      exact .inl ⟨v, M', r', v', w', rfl, ho⟩
    | none =>
      rw [ht] at h
      simp only at h
      cases hp : panicA env o with
      | none => rw [hp] at h; cases h
      | some v =>
        rw [hp] at h; cases h
        exact .inr (.inr ⟨v, rfl, (panicA_sound w hp he).1⟩)
theorem opE_soundIn {P : Program} (hN : noRoutines P) {G : List (Nat × List Value)} {T : Tab} (hT : TOk P G T) {self : Self} (hself : SelfOk P G self) {env : Env} {M : Mem} {o : Oper} {c : CR} {r : Nat → Option (Nat × Nat)} {a : Act} {w : World} (ro : Option Nat) (h : opE P T self env M o = some c)
    (hnd : ∀ c, o.op ≠ .defer c) (he : ER r env a.tmps) (hM : MR r M w) (hG : M.gl = G) {K : Act → World → Prop} {Q : Exit → Act → World → Prop}
    (hK : ∀ v M' r' v' w', c = .ret v M' → VR r' v v' → MR r' M' w' → Stp r M w r' M' w' → K (a.put o.dst v') w') (hP : ∀ ch M' r' w', c = .pan ch M' → MR r' M' w' → Stp r M w r' M' w' → Q (.panic ch) a w') : o.wpIn (FR ro) 0 P a w K Q := by
  refine ⟨fun _ _ => trivial, ?_⟩
  rw [Oper.semAt_eq _ _ _ hnd]
  rcases opE_run hN hT hself h he hM hG with ⟨v, M', r', v', w', rfl, ho⟩ | ⟨f, ys, hrun, hcall⟩ | ⟨v, rfl, hrun⟩
  · rcases ho.run with h1 | ⟨h1, h2⟩
    · rw [h1]; exact hK v M' r' v' w' rfl ho.val ho.mem ho.stp
    · rw [h1]; subst h2; exact hK v M' r' _ w' rfl ho.val ho.mem ho.stp
  · rw [hrun]
    refine ⟨fun hn => (by cases hn), ?_⟩
    have hc := (callsIn_wide (n := 0)).2 (hcall.mono (R' := fun
      | .returned v, w'' => K (a.put o.dst v) w''
      | .panicked chain, w'' => Q (.panic chain) a w''
      | .outgrown, _ => LetsOut Q) fun e w' hg => by
        cases c with
        | ret v M' => obtain ⟨v', r', rfl, h2, h3, h4⟩ := hg; exact hK v M' r' v' w' rfl h2 h3 h4
        | pan ch M' => obtain ⟨rfl, r', h3, h4⟩ := hg; exact hP ch M' r' w' rfl h3 h4)
    exact hc
  · rw [hrun]
    exact hP _ M r w rfl hM (.refl _ _ _)
/-- Where a region draws its order: an operation that gives a value. -/
def opV (P : Program) (T : Tab) (self : Self) (env : Env) (M : Mem) (o : Oper) : Option (Value × Mem) := match opE P T self env M o with
  | some (.ret v M') => some (v, M')
  | _ => none
theorem opV_sound {P : Program} (hN : noRoutines P) {G : List (Nat × List Value)} {T : Tab} (hT : TOk P G T) {self : Self} (hself : SelfOk P G self) {env : Env} {M M' : Mem} {o : Oper} {v : Value} {r : Nat → Option (Nat × Nat)} {a : Act} {w : World} (h : opV P T self env M o = some (v, M'))
    (he : ER r env a.tmps) (hM : MR r M w) (hG : M.gl = G) {K : Act → World → Prop} {Q : Exit → Act → World → Prop} (hK : ∀ r' v' w', VR r' v v' → MR r' M' w' → Stp r M w r' M' w' → K (a.put o.dst v') w') : o.wp P a w K Q := by
  unfold opV at h
  split at h
  case h_2 => cases h
  rename_i u M2 hq
  cases h
  unfold Oper.wp
  rcases opE_run hN hT hself hq he hM hG with ⟨v, M', r', v', w', e, ho⟩ | ⟨f, ys, hrun, hcall⟩ | ⟨v, e, hrun⟩
  · cases e
    rcases ho.run with h1 | ⟨h1, h2⟩
    · rw [h1]; exact hK r' v' w' ho.val ho.mem ho.stp
    · rw [h1]; subst h2; exact hK r' _ w' ho.val ho.mem ho.stp
  · rw [hrun]
    refine hcall.mono fun e w' ⟨v', r', he', hv, hm, hs⟩ => ?_
    subst he'
    exact hK r' v' w' hv hm hs
  · cases e
theorem opV_soundIn {P : Program} (hN : noRoutines P) {G : List (Nat × List Value)} {T : Tab} (hT : TOk P G T) {self : Self} (hself : SelfOk P G self) {env : Env} {M M' : Mem} {o : Oper} {v : Value} {r : Nat → Option (Nat × Nat)} {a : Act} {w : World} (ro : Option Nat) (h : opV P T self env M o = some (v, M'))
    (hnd : ∀ c, o.op ≠ .defer c) (he : ER r env a.tmps) (hM : MR r M w) (hG : M.gl = G) {K : Act → World → Prop} {Q : Exit → Act → World → Prop} (hK : ∀ r' v' w', VR r' v v' → MR r' M' w' → Stp r M w r' M' w' → K (a.put o.dst v') w') : o.wpIn (FR ro) 0 P a w K Q := by
  unfold opV at h
  split at h
  case h_2 => cases h
  rename_i u M2 hq
  cases h
  exact opE_soundIn hN hT hself ro hq hnd he hM hG (fun v M' r' v' w' e h1 h2 h3 => by cases e; exact hK r' v' w' h1 h2 h3) fun ch M' r' w' e => by cases e
end Ev
end Go.Proofs.Ytjinpngojdefiaa
/-! ## J -/
namespace Go.Proofs.Ytjinpngojdefiaa
open Go.RowKit
namespace Ev

/-- An operation that hangs on no world. -/
def opW (P : Program) (env : Env) (o : Oper) : Option Value := match o.op with
  | .move x => ev env x
  | .assign x => ev env x
  | .pick c x y => match ev env c with
    | some (.bool t) => ev env (bif t then x else y)
    | _ => none
  | .fieldAddr s x f => match ev env x with
    | some v => fieldAddrA P s v f
    | none => none
  | .indexAddr t x ix => match ev env x with
    | some v => match ev env ix with
      | some i => indexAddrA P t v i
      | none => none
    | none => none
  | .field t x f => match ev env x with
    | some v => fieldA P t v f
    | none => none
  | .extract x i => match ev env x with
    | some v => extractA v i
    | none => none
  | .makeFunc fn first captured => bif isYield fn then none else match evs env first.toList with
    | some xs => match evs env captured.toList with
      | some us => some (.func fn xs.toArray us.toArray)
      | none => none
    | none => none
  | .slice t x lo hi mx => match ev env x with
    | some v => match evo env lo with
      | some l => match evo env hi with
        | some h => match evo env mx with
          | some m => sliceA P t v l h m
          | none => none
        | none => none
      | none => none
    | none => none
  | .build t parts => match evp env parts.toList with
    | some q => buildA P t q
    | none => none
  | .call c => match c.callee with
    | .builtin .len => match c.args.toList with
      | [x] => match c.argTypes.toList with
        | [t] => match ev env x with
          | some v => lenA P t v
          | none => none
        | _ => none
      | _ => none
    | _ => none
  | _ => none

theorem opW_sound {P : Program} {env : Env} {o : Oper} {v : Value} {r : Nat → Option (Nat × Nat)} {a : Act} (h : opW P env o = some v) (he : ER r env a.tmps) :
    ∃ v', (∀ w, (execOp a.eval o).run P w = .ok (.value v') w) ∧ VR r v v' := by
  obtain ⟨dst, op, ty, pos, after, guard⟩ := o
  cases op with
  | move x => exact ⟨_, fun w => rfl, ev_sound he h⟩
  | assign x => exact ⟨_, fun w => rfl, ev_sound he h⟩
  | pick c x y =>
    simp only [opW] at h
    split at h
    case h_2 => cases h
    rename_i t h1
    have hb := (ev_sound he h1).bool
    refine ⟨a.eval (bif t then x else y), fun w => ?_, ev_sound he h⟩
    cases t <;> simp [execOp, hb, asBool]
  | fieldAddr s x f =>
    simp only [opW] at h
    cases h0 : ev env x with
    | none => rw [h0] at h; cases h
    | some u =>
      rw [h0] at h
      obtain ⟨v', h2, h3⟩ := fieldAddr_sound s f (ev_sound he h0) h
      exact ⟨v', fun w => run_value (h2 w), h3⟩
  | indexAddr t x ix =>
    simp only [opW] at h
    cases h0 : ev env x with
    | none => rw [h0] at h; cases h
    | some u =>
      rw [h0] at h
      simp only at h
      cases h1 : ev env ix with
      | none => rw [h1] at h; cases h
      | some i =>
        rw [h1] at h
        obtain ⟨v', h3, h4⟩ := indexAddr_sound t (ev_sound he h0) (ev_sound he h1) h
        exact ⟨v', fun w => run_value (h3 w), h4⟩
  | field t x f =>
    simp only [opW] at h
    cases h0 : ev env x with
    | none => rw [h0] at h; cases h
    | some u =>
      rw [h0] at h
      obtain ⟨v', h2, h3⟩ := field_sound t f (ev_sound he h0) h
      exact ⟨v', fun w => run_value (h2 w), h3⟩
  | extract x i =>
    simp only [opW] at h
    cases h0 : ev env x with
    | none => rw [h0] at h; cases h
    | some u =>
      rw [h0] at h
      obtain ⟨v', h2, h3⟩ := extract_sound (P := P) i (ev_sound he h0) h
      exact ⟨v', fun w => run_value (h2 w), h3⟩
  | makeFunc fn first captured =>
    simp only [opW] at h
    cases hy : isYield fn with
    | true => rw [hy] at h; cases h
    | false =>
    rw [hy] at h
    simp only [cond_false] at h
    cases h0 : evs env first.toList with
    | none => rw [h0] at h; cases h
    | some xs =>
      rw [h0] at h
      simp only at h
      cases h1 : evs env captured.toList with
      | none => rw [h1] at h; cases h
      | some us =>
        rw [h1] at h; cases h
        have e1 := evs_sound he h0
        have e2 := evs_sound he h1
        refine ⟨.func fn (first.map a.eval) (captured.map a.eval), fun w => by simp [execOp, Instr.makeFunc], ?_⟩
        have := VR.func' fn hy e1 e2
        have q1 : first.map a.eval = (first.toList.map a.eval).toArray := by rw [← Array.toList_map]
        have q2 : captured.map a.eval = (captured.toList.map a.eval).toArray := by rw [← Array.toList_map]
        rw [q1, q2]
        exact this
  | slice t x lo hi mx =>
    simp only [opW] at h
    cases h0 : ev env x with
    | none => rw [h0] at h; cases h
    | some u =>
      rw [h0] at h
      simp only at h
      cases h1 : evo env lo with
      | none => rw [h1] at h; cases h
      | some l =>
        rw [h1] at h
        simp only at h
        cases h2 : evo env hi with
        | none => rw [h2] at h; cases h
        | some hh =>
          rw [h2] at h
          simp only at h
          cases h3 : evo env mx with
          | none => rw [h3] at h; cases h
          | some m =>
            rw [h3] at h
            obtain ⟨v', h5, h6⟩ := slice_sound t (ev_sound he h0) (evo_sound he h1) (evo_sound he h2) (evo_sound he h3) h
            exact ⟨v', fun w => run_value (h5 w), h6⟩
  | build t parts =>
    simp only [opW] at h
    cases h0 : evp env parts.toList with
    | none => rw [h0] at h; cases h
    | some q =>
      rw [h0] at h
      obtain ⟨v', h2, h3⟩ := build_sound (ps' := parts.map fun p => (p.1, a.eval p.2)) t (by simpa using evp_sound he h0) h
      exact ⟨v', fun w => run_value (h2 w), h3⟩
  | call c =>
    obtain ⟨callee, args, argTypes⟩ := c
    simp only [opW] at h
    split at h
    case h_2 => cases h
    split at h
    case h_2 => cases h
    rename_i x hargs
    split at h
    case h_2 => cases h
    rename_i t hty
    cases h0 : ev env x with
    | none => rw [h0] at h; cases h
    | some u =>
      rw [h0] at h
      simp only at h
      unfold lenA at h
      split at h
      case h_2 => cases h
      rename_i ad n cap
      split at h
      case h_2 => cases h
      rename_i e hu
      cases h
      obtain ⟨hs, g, c', hg, hcap, ht, hv⟩ := (ev_sound he h0).of_slice
      have e1 := toArray_of hargs
      have e2 := toArray_of hty
      subst e1; subst e2
      exact ⟨.int .i64 n, fun w => by simp [execOp, resolve, invoke, builtin, Builtin.len_, underlying, hu, hv, goInt], .of_int r _ _⟩
  | _ => simp only [opW] at h; cases h

def opP (P : Program) (env : Env) (o : Oper) : Option Value := match opW P env o with
  | some v => some v
  | none => match nextP P env o with
    | some (.value v) => bif af 4 v then some v else none
    | _ => none
theorem opP_sound {P : Program} {env : Env} {o : Oper} {v : Value} {r : Nat → Option (Nat × Nat)} {a : Act} (h : opP P env o = some v) (he : ER r env a.tmps) :
    ∃ v', (∀ w, (execOp a.eval o).run P w = .ok (.value v') w) ∧ VR r v v' := by
  unfold opP at h
  cases h1 : opW P env o with
  | some q => rw [h1] at h; cases h; exact opW_sound h1 he
  | none =>
    rw [h1] at h
    simp only at h
    split at h
    case h_2 => cases h
    rename_i u h2
    cases hf : af 4 u with
    | false => rw [hf] at h; cases h
    | true => rw [hf] at h; cases h; exact ⟨_, fun w => nextP_sound w h2 he, .same 4 _ hf⟩

/-! ### Blocks that stay as they are. -/
def Stay (St : List (Nat × List Value)) (r : Nat → Option (Nat × Nat)) (w0 w : World) : Prop := ∀ i cs g, look St i = some cs → r i = some g → w.heap[g.1]? = w0.heap[g.1]?
def opL (P : Program) (St : List (Nat × List Value)) (env : Env) (o : Oper) : Option Value := match o.op with
  | .load t x => match ev env x with
    | some v => loadA P { next := 0, lo := 0, bl := St, gl := [], ob := [] } t v
    | none => none
  | _ => none
theorem loadA_block {P : Program} {M : Mem} {t : TypeId} {x v : Value} (h : loadA P M t x = some v) : ∃ a cs, x = .pointer (some a) ∧ look M.bl a.block = some cs := by
  unfold loadA at h
  split at h
  case h_2 => cases h
  rename_i a
  cases hl : look M.bl a.block with
  | none => rw [hl] at h; cases h
  | some cs => exact ⟨a, cs, rfl, hl⟩
theorem loadCells_same {P : Program} {w w0 : World} {a : Addr} (h : w.heap[a.block]? = w0.heap[a.block]?) {n : Nat} {ys : Array Value} (hs : ys.size = n)
    (hy : ∀ j, j < n → w0.cell? (a.add j) = ys[j]?) : (loadCells a n).run P w = .ok ys w := by
  have hcell : ∀ j, w.cell? (a.add j) = w0.cell? (a.add j) := fun j => by
    unfold World.cell?
    have : (a.add j).block = a.block := by unfold Addr.add; split <;> rfl
    rw [this, h]
  have := run_loadCells_list (P := P) w a ys.toList fun j v hv => by
    have hj : j < n := by
      rcases Nat.lt_or_ge j ys.toList.length with q | q
      · simpa [hs] using q
      · rw [List.getElem?_eq_none q] at hv; cases hv
    rw [hcell, hy j hj]
    simpa using hv
  simpa [hs] using this

theorem opL_sound {P : Program} {St : List (Nat × List Value)} {env : Env} {o : Oper} {v : Value} {r r0 : Nat → Option (Nat × Nat)} {M0 : Mem} {w0 : World} {a : Act} (h : opL P St env o = some v) (he : ER r env a.tmps)
    (hext : ∀ i g, r0 i = some g → r i = some g) (hM : MR r0 { M0 with bl := St, gl := [], ob := [] } w0) : ∃ v', (∀ w, Stay St r0 w0 w → (execOp a.eval o).run P w = .ok (.value v') w) ∧ VR r v v' := by
  obtain ⟨dst, op, ty, pos, after, guard⟩ := o
  unfold opL at h
  split at h
  case h_2 => cases h
  rename_i t x hop
  simp only at hop
  subst hop
  cases h0 : ev env x with
  | none => rw [h0] at h; cases h
  | some u =>
    rw [h0] at h
    simp only at h
    have hx := ev_sound he h0
    obtain ⟨ad, cs, rfl, hl⟩ := loadA_block h
    obtain ⟨hs, g, hg, hv⟩ := hx.of_ptr
    simp only at hl
    obtain ⟨g', tt, cc, hg', _⟩ := hM.blk ad.block cs hl
    have e := hext _ _ hg'
    rw [hg] at e; cases e
    have hx0 : VR r0 (.pointer (some ad)) (a.eval x) := by
      obtain ⟨b, of, sp⟩ := ad
      simp only at hs
      subst hs
      rw [hv]
      exact .ptr _ _ _ hg'
    have hl0 : loadA P { M0 with bl := St, gl := [], ob := [] } t (.pointer (some ad)) = some v := h
    -- the blocks at the start, seen from any world that stays
    obtain ⟨v', hrun, hval⟩ : ∃ v', (∀ w, Stay St r0 w0 w → (Instr.loadAt t (a.eval x)).run P w = .ok v' w) ∧ VR r0 v v' := by
      unfold loadA at hl0
      simp only [hl] at hl0
      cases hb : aggT P t with
      | none => rw [hb] at hl0; cases hl0
      | some b =>
        rw [hb] at hl0
        cases b with
        | false =>
          obtain ⟨y, h1, h2⟩ := cell_sound hM hl hg' hl0
          refine ⟨y, fun w hw => ?_, h2⟩
          have hblk := hw _ _ _ hl hg'
          have : w.cell? ⟨g.1, ad.off, none⟩ = some y := by
            rw [← h1]
            unfold World.cell?
            rw [hblk]
          simp [Instr.loadAt, hv, Instr.sureAddr, loadVar, aggT_run hb, this]
        | true =>
          cases hn : sizeA P t with
          | none => rw [hn] at hl0; cases hl0
          | some n =>
            rw [hn] at hl0
            simp only at hl0
            cases hle : Nat.ble (ad.off + n) cs.length with
            | false => rw [hle] at hl0; cases hl0
            | true =>
              rw [hle] at hl0
              cases hl0
              obtain ⟨ys, h1, h2, h3⟩ := cells_at hM hl hg' (Nat.le_of_ble_eq_true hle)
              refine ⟨.agg ys.toArray, fun w hw => ?_, .agg' h3⟩
              have hblk := hw _ _ _ hl hg'
              have hld : (loadCells ⟨g.1, ad.off, none⟩ n).run P w = .ok ys.toArray w :=
                loadCells_same (w0 := w0) hblk (by simpa using h1) fun j hj => by
                  rw [h2 j _ (List.getElem?_eq_getElem (by omega))]; simp [List.getElem?_eq_getElem (show j < ys.length by omega)]
              simp [Instr.loadAt, hv, Instr.sureAddr, loadVar, aggT_run hb, sizeA_run hn, hld]
    exact ⟨v', fun w hw => run_value (hrun w hw), hval.mono hext⟩

/-! ### Equal abstract states. -/
def beqT : Tr → Tr → Bool
  | .e, .e => true
  | .nd v l r, .nd u k q => beqV 6 v u && (beqT l k && beqT r q)
  | _, _ => false
theorem beqT_eq : ∀ {x y : Tr}, beqT x y = true → x = y
  | .e, .e, _ => rfl
  | .e, .nd _ _ _, h => by cases h
  | .nd _ _ _, .e, h => by cases h
  | .nd v l r, .nd u k q, h => by
    simp only [beqT, Bool.and_eq_true] at h
    rw [beqV_eq 6 _ _ h.1, beqT_eq h.2.1, beqT_eq h.2.2]
def beqN : List Nat → List Nat → Bool
  | [], [] => true
  | x :: xs, y :: ys => Nat.beq x y && beqN xs ys
  | _, _ => false
theorem beqN_eq : ∀ {x y : List Nat}, beqN x y = true → x = y
  | [], [], _ => rfl
  | [], _ :: _, h => by cases h
  | _ :: _, [], h => by cases h
  | x :: xs, y :: ys, h => by
    simp only [beqN, Bool.and_eq_true] at h
    rw [Nat.eq_of_beq_eq_true h.1, beqN_eq h.2]
end Ev
end Go.Proofs.Ytjinpngojdefiaa
/-! ## S -/
namespace Go.Proofs.Ytjinpngojdefiaa
open Go.RowKit
namespace Ev

/-- The name in the one state, the name in the other: the old ones keep theirs. -/
def oth (lim : Nat) (σ : List (Nat × Nat)) (i : Nat) : Option Nat := bif Nat.blt i lim then some i else look σ i
def nm (lim : Nat) (σ : List (Nat × Nat)) (i j : Nat) : Bool := match oth lim σ i with
  | some k => Nat.beq k j
  | none => false
def rn (lim : Nat) (σ : List (Nat × Nat)) (r : Nat → Option (Nat × Nat)) (i : Nat) : Option (Nat × Nat) := match oth lim σ i with
  | some k => r k
  | none => none
theorem nm_oth {lim : Nat} {σ : List (Nat × Nat)} {i j : Nat} (h : nm lim σ i j = true) : oth lim σ i = some j := by
  unfold nm at h
  cases hl : oth lim σ i with
  | none => rw [hl] at h; cases h
  | some k => rw [hl] at h; simp only at h; rw [Nat.eq_of_beq_eq_true h]
theorem rn_of {lim : Nat} {σ : List (Nat × Nat)} {r : Nat → Option (Nat × Nat)} {i j : Nat} (h : oth lim σ i = some j) : rn lim σ r i = r j := by
  unfold rn
  rw [h]
theorem oth_old {lim : Nat} {σ : List (Nat × Nat)} {i : Nat} (h : i < lim) : oth lim σ i = some i := by
  unfold oth
  have : Nat.blt i lim = true := Nat.ble_eq_true_of_le h
  rw [this]; rfl
theorem oth_new {lim : Nat} {σ : List (Nat × Nat)} {i j : Nat} (h : oth lim σ i = some j) : (i < lim ∧ j = i) ∨ (lim ≤ i ∧ look σ i = some j) := by
  rcases Nat.lt_or_ge i lim with q | q
  · rw [oth_old q] at h; cases h; exact .inl ⟨q, rfl⟩
  · unfold oth at h
    have : Nat.blt i lim = false := by
      cases hb : Nat.blt i lim with
      | false => rfl
      | true => have := Nat.le_of_ble_eq_true hb; omega
    rw [this] at h
    exact .inr ⟨q, h⟩
def eqVs (f : Value → Value → Bool) : List Value → List Value → Bool
  | [], [] => true
  | x :: xs, y :: ys => bif f x y then eqVs f xs ys else false
  | _, _ => false
def eqV (lim : Nat) (σ : List (Nat × Nat)) : Nat → Value → Value → Bool
  | 0, _, _ => false
  | n + 1, x, y => match x, y with
    | .pointer (some ⟨b, o, none⟩), .pointer (some ⟨b', o', none⟩) => Nat.beq o o' && nm lim σ b b'
    | .slice (some ⟨b, o, none⟩) l c, .slice (some ⟨b', o', none⟩) l' c' => ((Nat.beq o o' && Nat.beq l l') && (Nat.beq c c' && Nat.beq (b % 64) (b' % 64))) && nm lim σ b b'
    | .agg xs, .agg ys => eqVs (eqV lim σ n) xs.toList ys.toList
    | .tuple xs, .tuple ys => eqVs (eqV lim σ n) xs.toList ys.toList
    | .func (.func f) xs us, .func (.func g) ys vs => Nat.beq f g && (eqVs (eqV lim σ n) xs.toList ys.toList && eqVs (eqV lim σ n) us.toList vs.toList)
    | .iface t u, .iface t' u' => Nat.beq t t' && eqV lim σ n u u'
    | .map (some i), .map (some j) => nm lim σ i j
    | .chan (some i), .chan (some j) => Nat.beq i j
    | .func (.yield i) ⟨[]⟩ ⟨[]⟩, .func (.yield j) _ _ => nm lim σ i j
    | x, y => af 4 x && beqV 6 x y
theorem eqVs_rel {f : Value → Value → Bool} {rA rB : Nat → Option (Nat × Nat)} (hf : ∀ x y v, f x y = true → VR rB y v → VR rA x v) : ∀ {xs ys vs : List Value}, eqVs f xs ys = true → LR rB ys vs → LR rA xs vs
  | [], [], vs, _, h => by
    have := h.1
    cases vs with
    | nil => exact .nil _
    | cons _ _ => simp at this
  | [], _ :: _, _, h, _ => by cases h
  | _ :: _, [], _, h, _ => by cases h
  | x :: xs, y :: ys, vs, h, hr => by
    simp only [eqVs] at h
    cases hb : f x y with
    | false => rw [hb] at h; cases h
    | true =>
      rw [hb] at h
      cases vs with
      | nil => have := hr.1; simp at this
      | cons v vs => exact .cons (hf _ _ _ hb hr.head) (eqVs_rel hf h hr.tail)
theorem eqV_rel {lim : Nat} {σ : List (Nat × Nat)} {rA rB : Nat → Option (Nat × Nat)} (hr : ∀ i j, nm lim σ i j = true → rA i = rB j) : ∀ (n : Nat) (x y v : Value), eqV lim σ n x y = true → VR rB y v → VR rA x v
  | 0, _, _, _, h, _ => by cases h
  | n + 1, x, y, v, h, hv => by
    have ih := eqV_rel hr n
    unfold eqV at h
    split at h
    · rename_i b o b' o'
      simp only [Bool.and_eq_true] at h
      obtain ⟨hs, g, hg, rfl⟩ := hv.of_ptr
      simp only at hg
      rw [Nat.eq_of_beq_eq_true h.1]
      exact .ptr b o' g ((hr _ _ h.2).trans hg)
    · rename_i b o l c b' o' l' c'
      simp only [Bool.and_eq_true] at h
      obtain ⟨⟨⟨h1, h2⟩, h3, h4⟩, h5⟩ := h
      obtain ⟨hs, g, c2, hg, hc, ht, rfl⟩ := hv.of_slice
      simp only at hg ht
      rw [Nat.eq_of_beq_eq_true h1, Nat.eq_of_beq_eq_true h2, Nat.eq_of_beq_eq_true h3]
      refine .slice b o' l' c' c2 g ((hr _ _ h5).trans hg) hc ?_
      rw [Nat.eq_of_beq_eq_true h4]
      exact ht
    · rename_i xs ys
      obtain ⟨vs, rfl, hl⟩ := hv.of_agg
      have := VR.agg' (eqVs_rel ih h hl)
      simpa using this
    · rename_i xs ys
      obtain ⟨vs, rfl, hl⟩ := hv.of_tuple
      have := VR.tuple' (eqVs_rel ih h hl)
      simpa using this
    · rename_i f xs us g ys vs
      simp only [Bool.and_eq_true] at h
      obtain ⟨ys', vs', rfl, h1, h2⟩ := hv.of_func rfl
      rw [Nat.eq_of_beq_eq_true h.1]
      have := VR.func' (.func g) rfl (eqVs_rel ih h.2.1 h1) (eqVs_rel ih h.2.2 h2)
      simpa using this
    · rename_i t u t' u'
      simp only [Bool.and_eq_true] at h
      obtain ⟨u1, rfl, h1⟩ := hv.of_iface
      rw [Nat.eq_of_beq_eq_true h.1]
      exact .iface _ _ _ (ih _ _ _ h.2 h1)
    · rename_i i j
      obtain ⟨g, hg, rfl⟩ := hv.of_map
      exact .map i g ((hr _ _ h).trans hg)
    · obtain ⟨e, a, c, rfl⟩ := hv.of_empty
      rw [Nat.eq_of_beq_eq_true h]
      cases e
      exact .empty a c
    · rename_i i j _ _
      obtain ⟨g, hg, rfl⟩ := hv.of_yield
      exact .yield i g ((hr _ _ h).trans hg)
    · simp only [Bool.and_eq_true] at h
      have e := beqV_eq 6 _ _ h.2
      subst e
      rw [hv.eq h.1]
      exact .same 4 _ h.1
def eqT (lim : Nat) (σ : List (Nat × Nat)) : Tr → Tr → Bool
  | .e, .e => true
  | .nd v l r, .nd u k q => bif eqV lim σ 6 v u then bif eqT lim σ l k then eqT lim σ r q else false else false
  | _, _ => false
theorem eqT_get {lim : Nat} {σ : List (Nat × Nat)} : ∀ {x y : Tr}, eqT lim σ x y = true → ∀ p, (getT p x = Go.undef ∧ getT p y = Go.undef) ∨ eqV lim σ 6 (getT p x) (getT p y) = true
  | .e, .e, _, p => by cases p <;> exact .inl ⟨rfl, rfl⟩
  | .e, .nd _ _ _, h, _ => by cases h
  | .nd _ _ _, .e, h, _ => by cases h
  | .nd v l r, .nd u k q, h, p => by
    simp only [eqT] at h
    cases h1 : eqV lim σ 6 v u with
    | false => rw [h1] at h; cases h
    | true =>
      rw [h1] at h
      cases h2 : eqT lim σ l k with
      | false => rw [h2] at h; cases h
      | true =>
        rw [h2] at h
        cases p with
        | nil => exact .inr h1
        | cons b p =>
          cases b with
          | true => exact eqT_get (x := r) (y := q) h p
          | false => exact eqT_get (x := l) (y := k) h2 p
def eqBl (lim : Nat) (σ : List (Nat × Nat)) (blB : List (Nat × List Value)) : List (Nat × List Value) → Bool
  | [] => true
  | (i, cs) :: r => match oth lim σ i with
    | some k => match look blB k with
      | some ds => bif Nat.beq (i % 64) (k % 64) then bif eqVs (eqV lim σ 6) cs ds then eqBl lim σ blB r else false else false
      | none => false
    | none => false
theorem eqVs_get {f : Value → Value → Bool} : ∀ {xs ys : List Value}, eqVs f xs ys = true → ∀ (j : Nat) x, xs[j]? = some x → ∃ y, ys[j]? = some y ∧ f x y = true
  | [], _, _, j, x, hx => by simp at hx
  | _ :: _, [], h, _, _, _ => by cases h
  | x :: xs, y :: ys, h, j, v, hv => by
    simp only [eqVs] at h
    cases hb : f x y with
    | false => rw [hb] at h; cases h
    | true =>
      rw [hb] at h
      cases j with
      | zero => cases hv; exact ⟨y, rfl, hb⟩
      | succ j => exact eqVs_get (xs := xs) (ys := ys) h j v hv
theorem eqBl_look {lim : Nat} {σ : List (Nat × Nat)} {blB : List (Nat × List Value)} : ∀ {bl : List (Nat × List Value)}, eqBl lim σ blB bl = true → ∀ i cs, look bl i = some cs → ∃ k ds, oth lim σ i = some k ∧ look blB k = some ds ∧ i % 64 = k % 64 ∧ ∀ (j : Nat) x, cs[j]? = some x → ∃ y, ds[j]? = some y ∧ eqV lim σ 6 x y = true
  | [], _, i, cs, h => by cases h
  | (i0, c0) :: r, h, i, cs, hl => by
    simp only [eqBl] at h
    split at h
    case h_2 => cases h
    rename_i k hk
    split at h
    case h_2 => cases h
    rename_i ds hd
    cases h1 : Nat.beq (i0 % 64) (k % 64) with
    | false => rw [h1] at h; cases h
    | true =>
      rw [h1] at h
      cases h2 : eqVs (eqV lim σ 6) c0 ds with
      | false => rw [h2] at h; cases h
      | true =>
        rw [h2] at h
        rw [look_cons] at hl
        by_cases e : i0 = i
        · rw [if_pos e] at hl; cases hl; subst e
          exact ⟨k, ds, hk, hd, Nat.eq_of_beq_eq_true h1, eqVs_get h2⟩
        · rw [if_neg e] at hl
          exact eqBl_look (bl := r) h i cs hl

/-! ### The names, found by going through both. -/
def disc2 (f : List (Nat × Nat) → Value → Value → List (Nat × Nat)) : List (Nat × Nat) → List Value → List Value → List (Nat × Nat)
  | acc, x :: xs, y :: ys => disc2 f (f acc x y) xs ys
  | acc, _, _ => acc
def discV (lim : Nat) : Nat → List (Nat × Nat) → Value → Value → List (Nat × Nat)
  | 0, acc, _, _ => acc
  | n + 1, acc, x, y => match x, y with
    | .pointer (some a), .pointer (some b) => bif Nat.blt a.block lim then acc else (a.block, b.block) :: acc
    | .slice (some a) _ _, .slice (some b) _ _ => bif Nat.blt a.block lim then acc else (a.block, b.block) :: acc
    | .agg xs, .agg ys => disc2 (discV lim n) acc xs.toList ys.toList
    | .tuple xs, .tuple ys => disc2 (discV lim n) acc xs.toList ys.toList
    | .func _ xs us, .func _ ys vs => disc2 (discV lim n) (disc2 (discV lim n) acc xs.toList ys.toList) us.toList vs.toList
    | .iface _ u, .iface _ v => discV lim n acc u v
    | .map (some a), .map (some b) => bif Nat.blt a lim then acc else (a, b) :: acc
    | _, _ => acc
def discE (f : List (Nat × Nat) → Value → Value → List (Nat × Nat)) : List (Nat × Nat) → List (Value × Value) → List (Value × Value) → List (Nat × Nat)
  | acc, p :: ps, q :: qs => discE f (f acc p.2 q.2) ps qs
  | acc, _, _ => acc
def discM (lim : Nat) (obB : List (Nat × AOb)) : List (Nat × AOb) → List (Nat × Nat) → List (Nat × Nat)
  | [], acc => acc
  | (i, .map es) :: r, acc => bif Nat.blt i lim then match look obB i with
      | some (.map fs) => discM lim obB r (discE (discV lim 6) acc es fs)
      | _ => discM lim obB r acc
    else discM lim obB r acc
  | _ :: r, acc => discM lim obB r acc
def discT (lim : Nat) : Tr → Tr → List (Nat × Nat) → List (Nat × Nat)
  | .nd v l r, .nd u k q, acc => discT lim r q (discT lim l k (discV lim 6 acc v u))
  | _, _, acc => acc
def discO (lim : Nat) (gl blB : List (Nat × List Value)) : List (Nat × List Value) → List (Nat × Nat) → List (Nat × Nat)
  | [], acc => acc
  | (i, cs) :: r, acc => bif Nat.blt i lim then match look gl i with
      | some _ => discO lim gl blB r acc
      | none => match look blB i with
        | some ds => discO lim gl blB r (disc2 (discV lim 6) acc cs ds)
        | none => discO lim gl blB r acc
    else discO lim gl blB r acc
def discB (lim : Nat) (blA blB : List (Nat × List Value)) (obA obB : List (Nat × AOb)) : Nat → List (Nat × Nat) → List (Nat × Nat) → List (Nat × Nat)
  | 0, _, done => done
  | _ + 1, [], done => done
  | n + 1, (a, b) :: todo, done => match look done a with
    | some _ => discB lim blA blB obA obB n todo done
    | none => match look blA a with
      | some cs => match look blB b with
        | some ds => discB lim blA blB obA obB n (disc2 (discV lim 6) todo cs ds) ((a, b) :: done)
        | none => discB lim blA blB obA obB n todo ((a, b) :: done)
      | none => match look obA a with
        | some (.map es) => (match look obB b with
          | some (.map fs) => discB lim blA blB obA obB n (discE (discV lim 6) todo es fs) ((a, b) :: done)
          | _ => discB lim blA blB obA obB n todo ((a, b) :: done))
        | _ => discB lim blA blB obA obB n todo ((a, b) :: done)
def twice : List (Nat × Nat) → Nat → Bool
  | [], _ => false
  | p :: r, j => bif Nat.beq p.2 j then true else twice r j
def sigOk (lim top : Nat) : List (Nat × Nat) → Bool
  | [] => true
  | (i, j) :: r => bif (Nat.blt i top && Nat.ble lim j) then bif twice r j then false else sigOk lim top r else false
theorem twice_of {j : Nat} : ∀ {σ : List (Nat × Nat)} {i : Nat}, look σ i = some j → twice σ j = true
  | [], i, h => by cases h
  | (a, b) :: r, i, h => by
    simp only [twice]
    rw [look_cons] at h
    cases hb : Nat.beq b j with
    | true => rfl
    | false =>
      by_cases e : a = i
      · rw [if_pos e] at h; cases h; simp at hb
      · rw [if_neg e] at h; exact twice_of h
theorem sigOk_at {lim top : Nat} : ∀ {σ : List (Nat × Nat)}, sigOk lim top σ = true → ∀ i j, look σ i = some j → i < top ∧ lim ≤ j ∧ ∀ k, look σ k = some j → k = i
  | [], _, i, j, h => by cases h
  | (a, b) :: r, h, i, j, hl => by
    simp only [sigOk] at h
    cases h1 : (Nat.blt a top && Nat.ble lim b) with
    | false => rw [h1] at h; cases h
    | true =>
      rw [h1] at h
      simp only [Bool.and_eq_true] at h1
      cases h2 : twice r b with
      | true => rw [h2] at h; cases h
      | false =>
        rw [h2] at h
        rw [look_cons] at hl
        by_cases e : a = i
        · rw [if_pos e] at hl; cases hl; subst e
          refine ⟨Nat.le_of_ble_eq_true h1.1, Nat.le_of_ble_eq_true h1.2, fun k hk => ?_⟩
          rw [look_cons] at hk
          by_cases e' : a = k
          · exact e'.symm
          · rw [if_neg e'] at hk
            rw [twice_of hk] at h2; cases h2
        · rw [if_neg e] at hl
          obtain ⟨k1, k2, k3⟩ := sigOk_at (σ := r) h i j hl
          refine ⟨k1, k2, fun k hk => ?_⟩
          rw [look_cons] at hk
          by_cases e' : a = k
          · rw [if_pos e'] at hk; cases hk
            rw [twice_of hl] at h2; cases h2
          · rw [if_neg e'] at hk
            exact k3 k hk

/-! ### Two states held against each other: the first is kept, as far as both have it. -/
def memB (i : Nat) : List Nat → Bool
  | [] => false
  | j :: r => bif Nat.beq j i then true else memB i r
def keptB (lim : Nat) (σ : List (Nat × Nat)) (gl : List (Nat × List Value)) (bad : List Nat) (i : Nat) : Bool := match look gl i with
  | some _ => false
  | none => match oth lim σ i with
    | some _ => !memB i bad
    | none => false
/-- The blocks that the other does not have so. -/
def badB (lim : Nat) (σ : List (Nat × Nat)) (blB : List (Nat × List Value)) : List (Nat × List Value) → List Nat
  | [] => []
  | (i, cs) :: r => match oth lim σ i with
    | some k => match look blB k with
      | some ds => bif Nat.beq (i % 64) (k % 64) then bif eqVs (eqV lim σ 6) cs ds then badB lim σ blB r else i :: badB lim σ blB r else i :: badB lim σ blB r
      | none => i :: badB lim σ blB r
    | none => badB lim σ blB r
/-- Maps that both have. -/
def eqEs (f : Value → Value → Bool) : List (Value × Value) → List (Value × Value) → Bool
  | [], [] => true
  | (k, v) :: r, (k', v') :: r' => bif beqV 6 k k' then bif f v v' then eqEs f r r' else false else false
  | _, _ => false
theorem eqEs_rel {f : Value → Value → Bool} {rA rB : Nat → Option (Nat × Nat)} (hf : ∀ x y v, f x y = true → VR rB y v → VR rA x v) : ∀ {es fs : List (Value × Value)} {l : List MapEntry}, eqEs f es fs = true → EntsR rB fs l → EntsR rA es l
  | [], [], [], _, _ => trivial
  | [], [], _ :: _, _, h => h.elim
  | [], _ :: _, _, h, _ => by cases h
  | _ :: _, [], _, h, _ => by cases h
  | (k, v) :: es, (k', v') :: fs, l, h, hr => by
    simp only [eqEs] at h
    cases h1 : beqV 6 k k' with
    | false => rw [h1] at h; cases h
    | true =>
      rw [h1] at h
      simp only [cond_true] at h
      cases h2 : f v v' with
      | false => rw [h2] at h; cases h
      | true =>
        rw [h2] at h
        cases l with
        | nil => exact hr.elim
        | cons e l =>
          obtain ⟨⟨k1, k2⟩, k3⟩ := hr
          refine ⟨⟨?_, hf _ _ _ h2 k2⟩, eqEs_rel hf h k3⟩
          rw [beqV_eq 6 _ _ h1]; exact k1
def keptO (lim : Nat) (σ : List (Nat × Nat)) (obA obB : List (Nat × AOb)) (i : Nat) : Bool := match look obA i with
  | some (.map es) => match oth lim σ i with
    | some k => match look obB k with
      | some (.map fs) => eqEs (eqV lim σ 6) es fs
      | _ => false
    | none => false
  | _ => false
theorem keptO_some {lim : Nat} {σ : List (Nat × Nat)} {obA obB : List (Nat × AOb)} {i : Nat} {o : AOb} (h : look (sel (keptO lim σ obA obB) obA) i = some o) :
    look obA i = some o ∧ ∃ es k fs, o = .map es ∧ oth lim σ i = some k ∧ look obB k = some (.map fs) ∧ eqEs (eqV lim σ 6) es fs = true := by
  obtain ⟨h1, h2⟩ := look_sel_some h
  refine ⟨h2, ?_⟩
  unfold keptO at h1
  rw [h2] at h1
  split at h1
  case h_2 => cases h1
  rename_i es he
  split at h1
  case h_2 => cases h1
  rename_i k hk
  split at h1
  case h_2 => cases h1
  rename_i fs hf
  cases he
  exact ⟨es, k, fs, rfl, hk, hf, h1⟩
def simG (lim : Nat) (gs hs : List Nat) : Bool := beqN gs hs && gs.all fun g => Nat.blt (64 * g) lim
def simσ (lim lo : Nat) (gl : List (Nat × List Value)) (σ : List (Nat × Nat)) (bad : List Nat) (eA eB : Env) (A B : Mem) : Option Mem :=
  bif (Nat.beq eA.n eB.n && (Nat.ble lim (64 * A.next) && Nat.ble lo lim)) && simG lim eA.gs eB.gs then
    bif sigOk lim (64 * A.next) σ then bif eqT lim σ eA.t eB.t then bif eqBl lim σ B.bl (sel (keptB lim σ gl bad) A.bl) then
      some ⟨A.next, lo, sel (keptB lim σ gl bad) A.bl ++ gl, gl, sel (keptO lim σ A.ob B.ob) A.ob⟩
    else none else none else none
  else none
def simE (lim lo : Nat) (gl : List (Nat × List Value)) (eA eB : Env) (A B : Mem) : Option Mem :=
  forceL (discB lim A.bl B.bl A.ob B.ob 1000 (discM lim B.ob A.ob (discO lim gl B.bl A.bl (discT lim eA.t eB.t []))) []) fun σ => forceL (badB lim σ B.bl (sel (keptB lim σ gl []) A.bl)) fun bad => simσ lim lo gl σ bad eA eB A B

/-- What is known where a region stands. -/
structure SR (St : List (Nat × List Value)) (r0 : Nat → Option (Nat × Nat)) (M0 : Mem) (w0 : World) (env : Env) (M : Mem) (r : Nat → Option (Nat × Nat)) (tmps : Array Value) (w : World) : Prop where
  er : ER r env tmps
  mr : MR r M w
  stp : Stp r0 M0 w0 r M w
  apart : ∀ i cs g, look M.bl i = some cs → r i = some g → look St i = none → ∀ j ds h, look St j = some ds → r0 j = some h → h.1 ≠ g.1
theorem simσ_some {lim lo : Nat} {gl : List (Nat × List Value)} {σ : List (Nat × Nat)} {bad : List Nat} {eA eB : Env} {A B C : Mem} (h : simσ lim lo gl σ bad eA eB A B = some C) :
    ((eA.n = eB.n ∧ lim ≤ 64 * A.next ∧ lo ≤ lim) ∧ (eA.gs = eB.gs ∧ ∀ g ∈ eA.gs, 64 * g < lim)) ∧ sigOk lim (64 * A.next) σ = true ∧ eqT lim σ eA.t eB.t = true ∧ eqBl lim σ B.bl (sel (keptB lim σ gl bad) A.bl) = true ∧
      C = ⟨A.next, lo, sel (keptB lim σ gl bad) A.bl ++ gl, gl, sel (keptO lim σ A.ob B.ob) A.ob⟩ := by
  unfold simσ at h
  generalize hc : ((Nat.beq eA.n eB.n && (Nat.ble lim (64 * A.next) && Nat.ble lo lim)) && simG lim eA.gs eB.gs) = c at h
  cases c with
  | false => cases h
  | true =>
    simp only [cond_true] at h
    simp only [Bool.and_eq_true] at hc
    obtain ⟨⟨h1, h2, h3⟩, h4⟩ := hc
    unfold simG at h4
    simp only [Bool.and_eq_true, List.all_eq_true] at h4
    cases q1 : sigOk lim (64 * A.next) σ with
    | false => rw [q1] at h; cases h
    | true =>
      rw [q1] at h
      cases q2 : eqT lim σ eA.t eB.t with
      | false => rw [q2] at h; cases h
      | true =>
        rw [q2] at h
        cases q3 : eqBl lim σ B.bl (sel (keptB lim σ gl bad) A.bl) with
        | false => rw [q3] at h; cases h
        | true =>
          rw [q3] at h
          cases h
          exact ⟨⟨⟨Nat.eq_of_beq_eq_true h1, Nat.le_of_ble_eq_true h2, Nat.le_of_ble_eq_true h3⟩, ⟨beqN_eq h4.1, fun g hg => Nat.le_of_ble_eq_true (h4.2 g hg)⟩⟩, rfl, rfl, rfl, rfl⟩
section
variable {St : List (Nat × List Value)} {r0 : Nat → Option (Nat × Nat)} {M0 : Mem} {w0 : World} {eA eB : Env} {A B C : Mem} {r : Nat → Option (Nat × Nat)} {tmps : Array Value} {w : World} {σ : List (Nat × Nat)} {bad : List Nat}
theorem sim_left (h : simσ (64 * M0.next) M0.lo M0.gl σ bad eA eB A B = some C) (hs : SR St r0 M0 w0 eA A r tmps w) : SR St r0 M0 w0 eA C r tmps w := by
  obtain ⟨⟨⟨e1, e2, e3⟩, e4⟩, _, _, _, rfl⟩ := simσ_some h
  have hgl := hs.stp.gl
  have hlo := hs.stp.lo
  have sub : ∀ i cs, look (sel (keptB (64 * M0.next) σ M0.gl bad) A.bl ++ M0.gl) i = some cs → look A.bl i = some cs := fun i cs hl => by
    rw [look_append] at hl
    cases hb : look (sel (keptB (64 * M0.next) σ M0.gl bad) A.bl) i with
    | some c => rw [hb] at hl; cases hl; exact (look_sel_some hb).2
    | none =>
      rw [hb] at hl
      exact (hs.mr.glob i cs (by rw [hgl]; exact hl)).2.1
  refine ⟨hs.er, ⟨fun i cs hl => hs.mr.blk i cs (sub i cs hl), fun i j cs ds g g' h1 h2 => hs.mr.inj i j cs ds g g' (sub _ _ h1) (sub _ _ h2), hs.mr.bound, fun i cs hl => ?_, fun i o hl => hs.mr.obj i o (keptO_some hl).1, fun i j o p g g' h1 h2 => hs.mr.injO i j o p g g' (keptO_some h1).1 (keptO_some h2).1⟩,
    ⟨hs.stp.ext, rfl, hs.stp.next, fun i cs hl hi => hs.stp.old i cs (sub _ _ hl) hi, hs.stp.os, hs.stp.tape, hs.stp.output, hs.stp.size, hs.stp.keep, fun i cs g h1 h2 h3 h4 => hs.stp.anc i cs g (by rw [hlo]; exact h1) (sub _ _ h2) h3 h4, rfl, fun i o g hl => hs.stp.ancO i o g (keptO_some hl).1⟩, fun i cs g hl => hs.apart i cs g (sub _ _ hl)⟩
  have := hs.mr.glob i cs (by rw [hgl]; exact hl)
  refine ⟨by rw [← hlo]; exact this.1, ?_, this.2.2⟩
  rw [look_append, look_sel]
  have : keptB (64 * M0.next) σ M0.gl bad i = false := by unfold keptB; rw [hl]
  rw [this]
  simpa using hl
theorem sim_right (hM0 : MR r0 M0 w0) (hSt : ∀ i cs, look St i = some cs → look M0.bl i = some cs) (h : simσ (64 * M0.next) M0.lo M0.gl σ bad eA eB A B = some C) (hs : SR St r0 M0 w0 eB B r tmps w) : SR St r0 M0 w0 eA C (rn (64 * M0.next) σ r) tmps w := by
  obtain ⟨⟨⟨e1, e2, e3⟩, ⟨e4, e4'⟩⟩, s1, s2, s3, rfl⟩ := simσ_some h
  have hgl := hs.stp.gl
  have hlo := hs.stp.lo
  have old : ∀ i, i < 64 * M0.next → rn (64 * M0.next) σ r i = r i := fun i hi => rn_of (oth_old hi)
  have rel := fun (x y v : Value) => eqV_rel (lim := 64 * M0.next) (σ := σ) (rA := rn (64 * M0.next) σ r) (rB := r) (fun i j hij => rn_of (nm_oth hij)) 6 x y v
  -- each block there is one of the other's
  have that : ∀ i cs, look (sel (keptB (64 * M0.next) σ M0.gl bad) A.bl ++ M0.gl) i = some cs → ∃ k ds, oth (64 * M0.next) σ i = some k ∧ look B.bl k = some ds ∧ i % 64 = k % 64 ∧ ∀ (j : Nat) v, cs[j]? = some v → ∃ u, ds[j]? = some u ∧ ∀ v', VR r u v' → VR (rn (64 * M0.next) σ r) v v' := fun i cs hl => by
    rw [look_append] at hl
    cases hb : look (sel (keptB (64 * M0.next) σ M0.gl bad) A.bl) i with
    | some c =>
      rw [hb] at hl; cases hl
      obtain ⟨k, ds, k1, k2, k3, k4⟩ := eqBl_look s3 i _ hb
      exact ⟨k, ds, k1, k2, k3, fun j v hv => by obtain ⟨u, q1, q2⟩ := k4 j v hv; exact ⟨u, q1, fun v' => rel v u v' q2⟩⟩
    | none =>
      rw [hb] at hl
      obtain ⟨k1, k2, k3, k4⟩ := hs.mr.glob i cs (by rw [hgl]; exact hl)
      refine ⟨i, cs, oth_old (by omega), k2, rfl, fun j v hv => ⟨v, hv, fun v' hv' => ?_⟩⟩
      have ha : af 1 v = true := List.all_eq_true.1 k4 v (List.mem_of_getElem? hv)
      rw [hv'.eq ha]
      exact .same 1 _ ha
  have inj : ∀ i j k, oth (64 * M0.next) σ i = some k → oth (64 * M0.next) σ j = some k → i = j := fun i j k h1 h2 => by
    rcases oth_new h1 with ⟨q1, q2⟩ | ⟨q1, q2⟩ <;> rcases oth_new h2 with ⟨u1, u2⟩ | ⟨u1, u2⟩
    · omega
    · have := (sigOk_at s1 _ _ u2).2.1; omega
    · have := (sigOk_at s1 _ _ q2).2.1; omega
    · exact (sigOk_at s1 _ _ u2).2.2 _ q2
  have low : ∀ i k, oth (64 * M0.next) σ i = some k → M0.lo ≤ i → M0.lo ≤ k := fun i k h1 h2 => by
    rcases oth_new h1 with ⟨q1, q2⟩ | ⟨q1, q2⟩
    · omega
    · have := (sigOk_at s1 _ _ q2).2.1; omega
  refine ⟨⟨by rw [hs.er.1, e1], fun i => ?_, fun g hg => ?_⟩, ⟨fun i cs hl => ?_, fun i j cs ds g g' h1 h2 h3 h4 e => ?_, fun i g hi => ?_, fun i cs hl => ?_, fun i o hl => ?_, fun i j o p g g' h1 h2 h3 h4 e => ?_⟩,
    ⟨fun i g hi => ?_, rfl, by simp only; omega, fun i cs hl hi => ?_, hs.stp.os, hs.stp.tape, hs.stp.output, hs.stp.size, hs.stp.keep, fun i cs g h1 h2 h3 h4 => ?_, rfl, fun i o g hl hi hg => ?_⟩, fun i cs g hl hi hn j ds k hj hk => ?_⟩
  · have hv := hs.er.2 i
    rcases eqT_get s2 (pathOf i) with ⟨q1, q2⟩ | q
    · unfold Env.get at hv ⊢
      rw [q1]
      rw [q2] at hv
      rw [hv.eq (k := 1) rfl]
      exact .undef _
    · exact rel _ _ _ q hv
  · obtain ⟨s, hg'⟩ := hs.er.3 g (by rw [← e4]; exact hg)
    exact ⟨s, by rw [old _ (e4' g hg)]; exact hg'⟩
  · obtain ⟨k, ds, k1, k2, k3, k4⟩ := that i cs hl
    obtain ⟨g, t, cc, q1, q2, q3, q4⟩ := hs.mr.blk k ds k2
    refine ⟨g, t, cc, by rw [rn_of k1]; exact q1, q2, by rw [k3]; exact q3, fun j v hv => ?_⟩
    obtain ⟨u, p1, p2⟩ := k4 j v hv
    obtain ⟨v', p3, p4⟩ := q4 j u p1
    exact ⟨v', p3, p2 v' p4⟩
  · obtain ⟨k, _, k1, k2, _⟩ := that i cs h1
    obtain ⟨m, _, m1, m2, _⟩ := that j ds h2
    rw [rn_of k1] at h3
    rw [rn_of m1] at h4
    have := hs.mr.inj k m _ _ _ _ k2 m2 h3 h4 e
    subst this
    exact inj i j k k1 m1
  · unfold rn at hi
    cases ho : oth (64 * M0.next) σ i with
    | none => rw [ho] at hi; cases hi
    | some k =>
      rcases oth_new ho with ⟨q1, q2⟩ | ⟨q1, q2⟩
      · show i < 64 * A.next; omega
      · exact (sigOk_at s1 _ _ q2).1
  · obtain ⟨k1, k2, ⟨s, k3⟩, k4⟩ := hs.mr.glob i cs (by rw [hgl]; exact hl)
    refine ⟨by rw [← hlo]; exact k1, ?_, ⟨s, by rw [old i (by omega)]; exact k3⟩, k4⟩
    rw [look_append, look_sel]
    have : keptB (64 * M0.next) σ M0.gl bad i = false := by unfold keptB; rw [hl]
    rw [this]
    simpa using hl
  · obtain ⟨_, es, k, fs, rfl, k2, k3, k4⟩ := keptO_some hl
    obtain ⟨g, x, q1, q2, ents, clock, rfl, q3⟩ := hs.mr.obj k _ k3
    exact ⟨g, _, by rw [rn_of k2]; exact q1, q2, ents, clock, rfl, eqEs_rel rel k4 q3⟩
  · obtain ⟨_, es, k, fs, rfl, k2, k3, k4⟩ := keptO_some h1
    obtain ⟨_, es', m, fs', rfl, m2, m3, m4⟩ := keptO_some h2
    rw [rn_of k2] at h3
    rw [rn_of m2] at h4
    have := hs.mr.injO k m _ _ _ _ k3 m3 h3 h4 e
    subst this
    exact inj i j k k2 m2
  · rw [old i (hM0.bound i g hi)]
    exact hs.stp.ext i g hi
  · obtain ⟨k, ds, k1, k2, _⟩ := that i cs hl
    rw [oth_old hi] at k1; cases k1
    exact hs.stp.old i ds k2 hi
  · obtain ⟨k, ds, k1, k2, _⟩ := that i cs h2
    rw [rn_of k1] at h3
    exact hs.stp.anc k ds g (by rw [hlo]; exact low i k k1 h1) k2 h3 h4
  · obtain ⟨_, es, k, fs, rfl, k2, k3, k4⟩ := keptO_some hl
    rw [rn_of k2] at hi
    exact hs.stp.ancO k _ g k3 hi hg
  · obtain ⟨m, es, m1, m2, _⟩ := that i cs hl
    rw [rn_of m1] at hi
    refine hs.apart m es g m2 hi ?_ j ds k hj hk
    rcases oth_new m1 with ⟨q1, q2⟩ | ⟨q1, q2⟩
    · rw [q2]; exact hn
    · cases hst : look St m with
      | none => rfl
      | some x =>
        obtain ⟨g', _, _, k1, _⟩ := hM0.blk m x (hSt m x hst)
        have := hM0.bound m g' k1
        have := (sigOk_at s1 _ _ q2).2.1
        omega
end
end Ev
end Go.Proofs.Ytjinpngojdefiaa
/-! ## K -/
namespace Go.Proofs.Ytjinpngojdefiaa
open Go.RowKit
namespace Ev

/-! ### What is still to come of a region, each operation with what it waits for. -/
structure Ent where
  i : Nat
  o : Oper
  pend : List Nat
def pendOf : List Edge → List Nat
  | [] => []
  | e :: r => bif Region.binds .any e then e.on :: pendOf r else pendOf r
def entsAt (n : Nat) : List Oper → List Ent
  | [] => []
  | o :: l => ⟨n, o, pendOf o.after.toList⟩ :: forceN (n + 1) fun n => entsAt n l
def ents (ops : Array Oper) : List Ent := entsAt 0 ops.toList
def minusK {α : Type} (i : Nat) : List Nat → (List Nat → α) → α
  | [], k => k []
  | j :: r, k => bif Nat.beq j i then minusK i r k else minusK i r fun r => k (j :: r)
def minus (i : Nat) : List Nat → List Nat
  | [] => []
  | j :: r => bif Nat.beq j i then minus i r else j :: minus i r
theorem minusK_eq {α : Type} (i : Nat) : ∀ (l : List Nat) (k : List Nat → α), minusK i l k = k (minus i l)
  | [], _ => rfl
  | j :: r, k => by
    simp only [minusK, minus]
    cases Nat.beq j i with
    | true => simp only [cond_true, minusK_eq i r]
    | false => simp only [cond_false, minusK_eq i r]
theorem mem_minus {i k : Nat} : ∀ {l : List Nat}, k ∈ minus i l ↔ k ∈ l ∧ k ≠ i
  | [] => by simp [minus]
  | j :: r => by
    simp only [minus]
    cases h : Nat.beq j i with
    | true =>
      have := Nat.eq_of_beq_eq_true h
      subst this
      simp only [cond_true, mem_minus (l := r), List.mem_cons]
      exact ⟨fun ⟨h1, h2⟩ => ⟨.inr h1, h2⟩, fun ⟨h1, h2⟩ => ⟨h1.resolve_left h2, h2⟩⟩
    | false =>
      have hne : ¬ j = i := fun e => by subst e; simp at h
      simp only [cond_false, mem_minus (l := r), List.mem_cons]
      exact ⟨fun h => h.elim (fun e => ⟨.inl e, by rw [e]; exact hne⟩) fun ⟨h1, h2⟩ => ⟨.inr h1, h2⟩, fun ⟨h1, h2⟩ => h1.imp id fun h1 => ⟨h1, h2⟩⟩
def next (i : Nat) : List Ent → List Ent
  | [] => []
  | ⟨j, o, p⟩ :: r => bif Nat.beq j i then next i r else minusK i p fun p => ⟨j, o, p⟩ :: next i r
theorem mem_next {i : Nat} {e : Ent} : ∀ {l : List Ent}, e ∈ next i l ↔ ∃ e0 ∈ l, e0.i ≠ i ∧ e = ⟨e0.i, e0.o, minus i e0.pend⟩
  | [] => by simp [next]
  | ⟨j, o, p⟩ :: r => by
    simp only [next, minusK_eq]
    cases h : Nat.beq j i with
    | true =>
      have := Nat.eq_of_beq_eq_true h
      subst this
      simp only [cond_true, mem_next (l := r)]
      constructor
      · rintro ⟨e0, h1, h2⟩; exact ⟨e0, List.mem_cons_of_mem _ h1, h2⟩
      · rintro ⟨e0, h1, h2, h3⟩
        rcases List.mem_cons.1 h1 with rfl | h1
        · exact absurd rfl h2
        · exact ⟨e0, h1, h2, h3⟩
    | false =>
      have hne : ¬ j = i := fun e => by subst e; simp at h
      simp only [cond_false, List.mem_cons, mem_next (l := r)]
      constructor
      · rintro (rfl | ⟨e0, h1, h2⟩)
        · exact ⟨⟨j, o, p⟩, .inl rfl, hne, rfl⟩
        · exact ⟨e0, .inr h1, h2⟩
      · rintro ⟨e0, rfl | h1, h2, h3⟩
        · exact .inl h3
        · exact .inr ⟨e0, h1, h2, h3⟩
def memN (i : Nat) : List Nat → Bool
  | [] => false
  | j :: r => bif Nat.beq j i then true else memN i r
theorem memN_mem {i : Nat} : ∀ {l : List Nat}, memN i l = true → i ∈ l
  | [], h => by cases h
  | j :: r, h => by
    simp only [memN] at h
    cases hj : Nat.beq j i with
    | true => rw [Nat.eq_of_beq_eq_true hj]; exact List.mem_cons_self
    | false => rw [hj] at h; exact List.mem_cons_of_mem _ (memN_mem h)
def freeL (ops : Array Oper) (i : Nat) (oi : Oper) : List Ent → Bool
  | [] => true
  | ⟨j, o, p⟩ :: r => bif Nat.beq j i then freeL ops i oi r else bif memN i p then freeL ops i oi r else bif oi.apart ops o then freeL ops i oi r else false
theorem freeL_all {ops : Array Oper} {i : Nat} {oi : Oper} : ∀ {l : List Ent}, freeL ops i oi l = true → ∀ e ∈ l, e.i = i ∨ i ∈ e.pend ∨ oi.apart ops e.o = true
  | [], _, e, h => by cases h
  | ⟨j, o, p⟩ :: r, h, e, he => by
    simp only [freeL] at h
    have rest : freeL ops i oi r = true := by
      cases h1 : Nat.beq j i <;> rw [h1] at h
      · cases h2 : memN i p <;> rw [h2] at h
        · cases h3 : oi.apart ops o <;> rw [h3] at h
          · cases h
          · exact h
        · exact h
      · exact h
    rcases List.mem_cons.1 he with rfl | he
    · cases h1 : Nat.beq j i with
      | true => exact .inl (Nat.eq_of_beq_eq_true h1)
      | false =>
        rw [h1] at h
        cases h2 : memN i p with
        | true => exact .inr (.inl (memN_mem h2))
        | false =>
          rw [h2] at h
          cases h3 : oi.apart ops o with
          | true => exact .inr (.inr rfl)
          | false => rw [h3] at h; cases h
    · exact freeL_all rest e he
def readyL : List Ent → List (Nat × Oper)
  | [] => []
  | ⟨j, o, p⟩ :: r => match p with
    | [] => (j, o) :: readyL r
    | _ => readyL r
theorem mem_readyL {j : Nat} {o : Oper} : ∀ {l : List Ent}, (j, o) ∈ readyL l ↔ ⟨j, o, []⟩ ∈ l
  | [] => by simp [readyL]
  | ⟨i, o', p⟩ :: r => by
    cases p with
    | nil => simp [readyL, mem_readyL (l := r)]
    | cons k p => simp [readyL, mem_readyL (l := r)]
def cands (ops : Array Oper) (all : List Ent) : List Ent → List (Nat × Oper)
  | [] => []
  | ⟨j, o, p⟩ :: r => match p with
    | [] => bif freeL ops j o all then (j, o) :: cands ops all r else cands ops all r
    | _ => cands ops all r
theorem mem_cands {ops : Array Oper} {all : List Ent} {j : Nat} {o : Oper} : ∀ {l : List Ent}, (j, o) ∈ cands ops all l → ⟨j, o, []⟩ ∈ l ∧ freeL ops j o all = true
  | [], h => by simp [cands] at h
  | ⟨i, o', p⟩ :: r, h => by
    cases p with
    | nil =>
      simp only [cands] at h
      cases hf : freeL ops i o' all with
      | true =>
        rw [hf] at h
        rcases List.mem_cons.1 h with h | h
        · cases h; exact ⟨List.mem_cons_self, hf⟩
        · exact ⟨List.mem_cons_of_mem _ (mem_cands h).1, (mem_cands h).2⟩
      | false => rw [hf] at h; exact ⟨List.mem_cons_of_mem _ (mem_cands h).1, (mem_cands h).2⟩
    | cons k p => simp only [cands] at h; exact ⟨List.mem_cons_of_mem _ (mem_cands h).1, (mem_cands h).2⟩
structure RemOk (ops : Array Oper) (listed : Array Bool) (rem : List Ent) : Prop where
  mem : ∀ e ∈ rem, ops[e.i]? = some e.o ∧ listed.getD e.i true = false ∧ ∀ k, k ∈ e.pend ↔ ∃ a ∈ e.o.after, Region.binds .any a = true ∧ a.on = k ∧ listed.getD k false = false
  all : ∀ (j : Nat) o, ops[j]? = some o → listed.getD j true = false → ∃ e ∈ rem, e.i = j
theorem RemOk.ready {ops : Array Oper} {listed : Array Bool} {rem : List Ent} (h : RemOk ops listed rem) {j : Nat} : j ∈ Region.ready .any ops listed ↔ ∃ o, (j, o) ∈ readyL rem := by
  rw [mem_ready]
  constructor
  · rintro ⟨h1, o, h2, h3⟩
    obtain ⟨⟨i, o', p⟩, k1, rfl⟩ := h.all j o h2 h1
    obtain ⟨m1, m2, m3⟩ := h.mem _ k1
    simp only at h2 m1 m3
    rw [h2] at m1; cases m1
    refine ⟨o, mem_readyL.2 ?_⟩
    cases p with
    | nil => exact k1
    | cons k p =>
      obtain ⟨a, n1, n2, n3, n4⟩ := (m3 k).1 List.mem_cons_self
      have := h3 a n1 n2
      rw [n3, n4] at this
      cases this
  · rintro ⟨o, h1⟩
    obtain ⟨m1, m2, m3⟩ := h.mem _ (mem_readyL.1 h1)
    refine ⟨m2, o, m1, fun a n1 n2 => ?_⟩
    cases hl : listed.getD a.on false with
    | true => rfl
    | false => cases (m3 a.on).2 ⟨a, n1, n2, rfl, hl⟩
theorem RemOk.done {ops : Array Oper} {listed : Array Bool} {rem : List Ent} (h : RemOk ops listed rem) (hr : readyL rem = []) : Region.ready .any ops listed = [] := by
  rw [List.eq_nil_iff_forall_not_mem]
  intro j hj
  obtain ⟨o, ho⟩ := h.ready.1 hj
  rw [hr] at ho
  cases ho
theorem RemOk.free {ops : Array Oper} {listed : Array Bool} {rem : List Ent} (h : RemOk ops listed rem) {i : Nat} {oi : Oper} {p : List Nat} (he : ⟨i, oi, p⟩ ∈ rem) (hf : freeL ops i oi rem = true) : Region.free .any ops listed i = true := by
  obtain ⟨m1, _, _⟩ := h.mem _ he
  simp only at m1
  unfold Region.free
  simp only [m1, List.all_eq_true, List.mem_range, Bool.or_eq_true, beq_iff_eq]
  intro j hj
  cases hl : listed.getD j true with
  | true => exact .inl (.inr rfl)
  | false =>
    have ho : ops[j]? = some ops[j] := Array.getElem?_eq_getElem hj
    obtain ⟨e, k1, rfl⟩ := h.all j _ ho hl
    obtain ⟨n1, _, n3⟩ := h.mem _ k1
    rw [ho] at n1
    simp only [ho]
    have hoe : e.o = ops[e.i] := (Option.some.inj n1).symm
    rcases freeL_all hf e k1 with q | q | q
    · exact .inl (.inl q)
    · obtain ⟨a, a1, a2, a3, _⟩ := (n3 i).1 q
      refine .inr ?_
      rw [Bool.or_eq_true]
      refine .inl (Array.any_eq_true'.2 ⟨a, by rw [← hoe]; exact a1, by simp [a2, a3]⟩)
    · refine .inr ?_
      rw [Bool.or_eq_true, ← hoe]
      exact .inr q
theorem RemOk.next {ops : Array Oper} {listed : Array Bool} {rem : List Ent} (h : RemOk ops listed rem) {i : Nat} (hi : listed.getD i true = false) : RemOk ops (listed.setIfInBounds i true) (next i rem) := by
  have hlt : i < listed.size := by
    rcases Nat.lt_or_ge i listed.size with q | q
    · exact q
    · simp [Array.getElem?_eq_none q] at hi
  have hself : ∀ d, (listed.setIfInBounds i true).getD i d = true := fun d => by simp [hlt]
  refine ⟨fun e he => ?_, fun j o ho hj => ?_⟩
  · obtain ⟨e0, h1, h2, rfl⟩ := mem_next.1 he
    obtain ⟨m1, m2, m3⟩ := h.mem _ h1
    refine ⟨m1, by simp only; rw [getD_set_ne true (Ne.symm h2)]; exact m2, fun k => ?_⟩
    simp only [mem_minus, m3]
    constructor
    · rintro ⟨⟨a, a1, a2, a3, a4⟩, hk⟩
      exact ⟨a, a1, a2, a3, by rw [getD_set_ne false (Ne.symm hk)]; exact a4⟩
    · rintro ⟨a, a1, a2, a3, a4⟩
      have hk : k ≠ i := fun e => by subst e; rw [hself] at a4; cases a4
      exact ⟨⟨a, a1, a2, a3, by rw [getD_set_ne false (Ne.symm hk)] at a4; exact a4⟩, hk⟩
  · have hne : j ≠ i := fun e => by subst e; rw [hself] at hj; cases hj
    rw [getD_set_ne true (Ne.symm hne)] at hj
    obtain ⟨e, h1, h2⟩ := h.all j o ho hj
    exact ⟨_, mem_next.2 ⟨e, h1, by rw [h2]; exact hne, rfl⟩, h2⟩
theorem mem_pendOf {k : Nat} : ∀ {l : List Edge}, k ∈ pendOf l ↔ ∃ a ∈ l, Region.binds .any a = true ∧ a.on = k
  | [] => by simp [pendOf]
  | e :: r => by
    simp only [pendOf]
    cases h : Region.binds .any e with
    | true =>
      simp only [cond_true, List.mem_cons, mem_pendOf (l := r)]
      constructor
      · rintro (rfl | ⟨a, a1, a2⟩)
        · exact ⟨e, .inl rfl, h, rfl⟩
        · exact ⟨a, .inr a1, a2⟩
      · rintro ⟨a, rfl | a1, a2, a3⟩
        · exact .inl a3.symm
        · exact .inr ⟨a, a1, a2, a3⟩
    | false =>
      simp only [cond_false, List.mem_cons, mem_pendOf (l := r)]
      constructor
      · rintro ⟨a, a1, a2⟩; exact ⟨a, .inr a1, a2⟩
      · rintro ⟨a, rfl | a1, a2, a3⟩
        · rw [h] at a2; cases a2
        · exact ⟨a, a1, a2, a3⟩
theorem mem_entsAt {e : Ent} : ∀ {l : List Oper} {n : Nat}, e ∈ entsAt n l ↔ ∃ (k : Nat) (o : Oper), l[k]? = some o ∧ e = ⟨n + k, o, pendOf o.after.toList⟩
  | [], n => by simp [entsAt]
  | o :: l, n => by
    simp only [entsAt, forceN_eq, List.mem_cons, mem_entsAt (l := l) (n := n + 1)]
    constructor
    · rintro (rfl | ⟨k, o', h1, rfl⟩)
      · exact ⟨0, o, rfl, rfl⟩
      · exact ⟨k + 1, o', h1, by rw [Nat.add_right_comm]; rfl⟩
    · rintro ⟨k, o', h1, rfl⟩
      cases k with
      | zero => cases h1; exact .inl rfl
      | succ k => exact .inr ⟨k, o', h1, by rw [Nat.add_right_comm]; rfl⟩
theorem RemOk.start (ops : Array Oper) : RemOk ops (Array.replicate ops.size false) (ents ops) := by
  have hf : ∀ k, (Array.replicate ops.size false).getD k false = false := fun k => by
    simp only [Array.getD_eq_getD_getElem?, Array.getElem?_replicate]
    split <;> rfl
  refine ⟨fun e he => ?_, fun j o ho hj => ?_⟩
  · obtain ⟨k, o, h1, rfl⟩ := mem_entsAt.1 he
    have hk : ops[k]? = some o := by rw [← Array.getElem?_toList]; exact h1
    have hlt : k < ops.size := (Array.getElem?_eq_some_iff.1 hk).1
    refine ⟨by simpa using hk, by simp [hlt], fun m => ?_⟩
    simp only [mem_pendOf, hf, and_true]
    constructor
    · rintro ⟨a, a1, a2⟩; exact ⟨a, Array.mem_toList_iff.1 a1, a2⟩
    · rintro ⟨a, a1, a2⟩; exact ⟨a, Array.mem_toList_iff.2 a1, a2⟩
  · refine ⟨⟨j, o, pendOf o.after.toList⟩, mem_entsAt.2 ⟨j, o, by rw [Array.getElem?_toList]; exact ho, by simp⟩, rfl⟩

/-- The first operation among those that may be taken first which yields without more ado, with what it yields. -/
def takeE (P : Program) (ops : Array Oper) (St : List (Nat × List Value)) (env : Env) : List (Nat × Oper) → Option (Nat × Option Tmp × Value)
  | [] => none
  | (i, o) :: rest => bif wantedA ops env o then match opP P env o with
      | some v => some (i, o.dst, v)
      | none => match opL P St env o with
        | some v => some (i, o.dst, v)
        | none => takeE P ops St env rest
    else some (i, o.dst, Go.undef)

theorem takeE_sound {P : Program} {ops : Array Oper} {St : List (Nat × List Value)} {env : Env} {r r0 : Nat → Option (Nat × Nat)} {M0 : Mem} {w0 : World} {a : Act} (he : ER r env a.tmps)
    (hext : ∀ i g, r0 i = some g → r i = some g) (hM : MR r0 { M0 with bl := St, gl := [], ob := [] } w0) : ∀ {rs : List (Nat × Oper)} {i : Nat} {d : Option Tmp} {v : Value}, takeE P ops St env rs = some (i, d, v) →
    ∃ o v', (i, o) ∈ rs ∧ o.dst = d ∧ VR r v v' ∧ YieldsIf P ops (Stay St r0 w0) o v' a
  | [], i, d, v, h => by cases h
  | (j, o) :: rest, i, d, v, h => by
    simp only [takeE] at h
    have hw' := wantedA_eq ops he o
    cases hw : wantedA ops env o with
    | false =>
      rw [hw] at h; cases h
      exact ⟨o, Go.undef, List.mem_cons_self, rfl, .undef r, .inr ⟨hw'.trans hw, rfl⟩⟩
    | true =>
      rw [hw] at h
      simp only [cond_true] at h
      cases hp : opP P env o with
      | some u =>
        rw [hp] at h; cases h
        obtain ⟨v', h1, h2⟩ := opP_sound hp he
        exact ⟨o, v', List.mem_cons_self, rfl, h2, .inl ⟨hw'.trans hw, fun w _ => h1 w⟩⟩
      | none =>
        rw [hp] at h
        simp only at h
        cases hl : opL P St env o with
        | some u =>
          rw [hl] at h; cases h
          obtain ⟨v', h1, h2⟩ := opL_sound hl he hext hM
          exact ⟨o, v', List.mem_cons_self, rfl, h2, .inl ⟨hw'.trans hw, h1⟩⟩
        | none =>
          rw [hl] at h
          obtain ⟨o', v', h1, h2⟩ := takeE_sound he hext hM h
          exact ⟨o', v', List.mem_cons_of_mem _ h1, h2⟩

/-- One operation carried out, the blocks of 'St' untouched: a store into another block, or anything that writes to no old block. -/
def storeTo (env : Env) (o : Oper) : Option Nat := match o.op with
  | .store _ x _ => match ev env x with
    | some (.pointer (some a)) => some a.block
    | _ => none
  | _ => none
/-- What an operation may write to: all but the blocks that are to stay; the tables stay in sight. -/
def pub (St gl : List (Nat × List Value)) (i : Nat) : Bool := match look St i with
  | none => true
  | some _ => match look gl i with
    | none => false
    | some _ => true
def stepE (P : Program) (T : Tab) (self : Self) (St : List (Nat × List Value)) (env : Env) (M : Mem) (o : Oper) : Option (Value × Mem) := match St with
  | [] => opV P T self env M o
  | _ => match storeTo env o with
    | some b => match look St b with
      | none => opV P T self env M o
      | some _ => none
    | none => match opV P T self env { M with lo := 64 * M.next } o with
      | some (v, M') => some (v, { M' with lo := M.lo })
      | none => bif Nat.ble M.lo (64 * M.next) then match opV P T self env { M with bl := sel (pub St M.gl) M.bl } o with
          | some (v, M') => some (v, { M' with bl := M'.bl ++ sel (fun i => !pub St M.gl i) M.bl })
          | none => none
        else none

def bestE (P : Program) (T : Tab) (self : Self) (ops : Array Oper) (St : List (Nat × List Value)) (env : Env) (M : Mem) (o : Oper) : Option (Env × Mem) :=
  bif wantedA ops env o then match stepE P T self St env M o with
    | some (v, M') => forceD 4 v fun v => forceM M' fun M' => putK env o.dst v fun env => some (env, M')
    | none => none
  else putK env o.dst Go.undef fun env => some (env, M)

/-- What the region's operations leave is said to be anything. -/
def loseE : List Oper → Env → Env
  | [], env => env
  | o :: r, env => match o.dst with
    | some d => loseE r (env.lose d)
    | none => loseE r env
theorem loseE_keep : ∀ (l : List Oper) (env : Env), (loseE l env).n = env.n ∧ (loseE l env).gs = env.gs ∧ (loseE l env).ds = env.ds ∧ (loseE l env).rd = env.rd
  | [], _ => ⟨rfl, rfl, rfl, rfl⟩
  | o :: l, env => by
    unfold loseE
    cases o.dst with
    | none => exact loseE_keep l env
    | some d =>
      obtain ⟨h1, h2, h3, h4⟩ := loseE_keep l (env.lose d)
      exact ⟨by simp only; rw [h1, Env.lose_n], by simp only; rw [h2, Env.lose_gs], by simp only; rw [h3, Env.lose_ds], by simp only; rw [h4, Env.lose_rd]⟩
theorem loseE_rel {r : Nat → Option (Nat × Nat)} {tmps : Array Value} : ∀ (l : List Oper) {env : Env}, EW r env tmps → EW r (loseE l env) tmps
  | [], _, h => h
  | o :: l, env, h => by
    unfold loseE
    cases o.dst with
    | none => exact loseE_rel l h
    | some d => exact loseE_rel l (h.lose d)
theorem loseE_stay : ∀ (l : List Oper) {env : Env} {i : Nat}, isU (env.get i) = true → isU ((loseE l env).get i) = true
  | [], _, _, h => h
  | o :: l, env, i, h => by
    unfold loseE
    cases o.dst with
    | none => exact loseE_stay l h
    | some d =>
      refine loseE_stay l ?_
      rw [Env.lose_get]
      split
      · rfl
      · exact h
theorem loseE_at {o : Oper} {d : Nat} (hd : o.dst = some d) : ∀ (l : List Oper) (env : Env), o ∈ l → d < env.n → isU ((loseE l env).get d) = true := by
  intro l
  induction l with
  | nil => exact fun env h => by cases h
  | cons x l ih =>
    intro env hm hn
    unfold loseE
    by_cases hx : x = o
    · subst hx
      rw [hd]
      refine loseE_stay l ?_
      rw [Env.lose_get, if_pos ⟨rfl, hn⟩]
      rfl
    · have hm' : o ∈ l := by
        rcases List.mem_cons.1 hm with h | h
        · exact absurd h.symm hx
        · exact h
      cases x.dst with
      | none => exact ih env hm' hn
      | some e => exact ih _ hm' (by rw [Env.lose_n]; exact hn)
/-- Whether one of these has been taken already makes no difference. -/
theorem loseE_put {r : Nat → Option (Nat × Nat)} {l : List Oper} {env : Env} {o : Oper} (hm : o ∈ l) (a : Act) (v : Value) (h : EW r (loseE l env) (a.put o.dst v).tmps) : EW r (loseE l env) a.tmps := by
  cases hd : o.dst with
  | none => rw [hd] at h; exact h
  | some d =>
    rw [hd] at h
    have hsz : a.tmps.size = (loseE l env).n := by
      have := h.1
      simpa [Act.put] using this
    refine ⟨hsz, fun i => ?_, h.3⟩
    rcases Nat.lt_or_ge d env.n with hlt | hge
    · rcases Nat.decEq i d with hne | rfl
      · have := h.2 i
        simp only [Act.put, Array.getD_eq_getD_getElem?, Array.getElem?_setIfInBounds, if_neg (Ne.symm hne)] at this
        simpa [Array.getD_eq_getD_getElem?] using this
      · exact .inl (loseE_at hd l env hm hlt)
    · have := h.2 i
      have hout : a.tmps.size ≤ d := by rw [hsz, (loseE_keep l env).1]; exact hge
      have e : a.tmps.setIfInBounds d v = a.tmps := by
        apply Array.ext_getElem?
        intro j
        rw [Array.getElem?_setIfInBounds]
        split
        · rename_i q; subst q; first | exact (Array.getElem?_eq_none hout).symm | (rw [if_neg (by omega)]; exact (Array.getElem?_eq_none hout).symm)
        · rfl
      simp only [Act.put, e] at this
      exact this
theorem loseE_put' {r : Nat → Option (Nat × Nat)} {l : List Oper} {env : Env} {o : Oper} (hm : o ∈ l) (a : Act) (v : Value) (h : EW r (loseE l env) a.tmps) : EW r (loseE l env) (a.put o.dst v).tmps := by
  cases hd : o.dst with
  | none => exact h
  | some d =>
    refine ⟨by simpa [Act.put] using h.1, fun i => ?_, h.3⟩
    have hi := h.2 i
    simp only [Act.put, Array.getD_eq_getD_getElem?, Array.getElem?_setIfInBounds]
    rcases Nat.decEq d i with hne | rfl
    · rw [if_neg hne]
      simpa [Array.getD_eq_getD_getElem?] using hi
    · rcases Nat.lt_or_ge d env.n with hlt | hge
      · exact .inl (loseE_at hd l env hm hlt)
      · have hn : a.tmps.size = env.n := h.1.trans (loseE_keep l env).1
        have hge' : a.tmps.size ≤ d := by rw [hn]; exact hge
        have hout : ¬ d < a.tmps.size := Nat.not_lt.2 hge'
        rw [if_pos rfl, if_neg hout]
        have e : a.tmps.getD d Go.undef = Go.undef := by rw [Array.getD_eq_getD_getElem?, Array.getElem?_eq_none hge']; rfl
        rw [e] at hi
        exact hi
/-- A region left by a panic: what it panics with, the memory. -/
abbrev XE := Option (List PanicEntry × Mem)
def eqCh : List PanicEntry → List PanicEntry → Bool
  | [], [] => true
  | p :: ps, q :: qs => (beqV 6 p.v q.v && (Bool.decEq p.recovered q.recovered |>.decide)) && ((Bool.decEq p.goexit q.goexit |>.decide) && eqCh ps qs)
  | _, _ => false
theorem eqCh_eq : ∀ {x y : List PanicEntry}, eqCh x y = true → x = y
  | [], [], _ => rfl
  | [], _ :: _, h => by cases h
  | _ :: _, [], h => by cases h
  | ⟨v, a, b⟩ :: ps, ⟨u, c, d⟩ :: qs, h => by
    simp only [eqCh, Bool.and_eq_true, decide_eq_true_eq] at h
    obtain ⟨⟨h1, h2⟩, h3, h4⟩ := h
    rw [beqV_eq 6 _ _ h1, h2, h3, eqCh_eq h4]
def env00 : Env := ⟨0, .e, [], [], false⟩
def addX (lim lo : Nat) (gl : List (Nat × List Value)) (x : XE) (ch : List PanicEntry) (M : Mem) : Option XE := match x with
  | none => some (some (ch, M))
  | some (ch0, M0) => bif eqCh ch0 ch then match simE lim lo gl env00 env00 M0 M with
      | some C => forceM C fun C => some (some (ch0, C))
      | none => none
    else none
def panE (P : Program) (T : Tab) (self : Self) (ops : Array Oper) (env : Env) (M : Mem) (o : Oper) : XE := bif wantedA ops env o then match opE P T self env M o with
    | some (.pan ch M') => some (ch, M')
    | _ => none
  else none
/-! ### The states that a region may be in after so many operations: those that have the same still to come must say the same. -/
abbrev Pt := List Ent × Env × Mem
def beqE : List Ent → List Ent → Bool
  | [], [] => true
  | ⟨i, _, p⟩ :: r, ⟨j, _, q⟩ :: s => bif Nat.beq i j then bif beqN p q then beqE r s else false else false
  | _, _ => false
def addP (lim lo : Nat) (gl : List (Nat × List Value)) (rx : List Ent) (ex : Env) (Mx : Mem) : List Pt → Option (List Pt)
  | [] => some [(rx, ex, Mx)]
  | (ry, ey, My) :: l => bif beqE ry rx then (match simE lim lo gl ey ex My Mx with
      | some C => forceM C fun C => some ((ry, ey, C) :: l)
      | none => none)
    else match addP lim lo gl rx ex Mx l with
      | some l' => some ((ry, ey, My) :: l')
      | none => none
def addAll (lim lo : Nat) (gl : List (Nat × List Value)) : List Pt → List Pt → Option (List Pt)
  | [], acc => some acc
  | (rx, ex, Mx) :: xs, acc => match addP lim lo gl rx ex Mx acc with
    | some acc' => addAll lim lo gl xs acc'
    | none => none
def eachP (P : Program) (T : Tab) (self : Self) (ops : Array Oper) (St : List (Nat × List Value)) (lim lo : Nat) (gl : List (Nat × List Value)) (rem : List Ent) (env : Env) (M : Mem) : List (Nat × Oper) → XE → Option (List Pt × XE)
  | [], x => some ([], x)
  | (i, o) :: rs, x => match bestE P T self ops St env M o with
    | some (env', M') => (match eachP P T self ops St lim lo gl rem env M rs x with
      | some (ys, x) => some ((next i rem, env', M') :: ys, x)
      | none => none)
    | none => match panE P T self ops env M o with
      | some (ch, M') => (match addX lim lo gl x ch M' with
        | some x => eachP P T self ops St lim lo gl rem env M rs x
        | none => none)
      | none => none
def succE (P : Program) (T : Tab) (self : Self) (ops : Array Oper) (St : List (Nat × List Value)) (lim lo : Nat) (gl : List (Nat × List Value)) (rem : List Ent) (env : Env) (M : Mem) (x : XE) : Option (List Pt × XE) := match takeE P ops St env (cands ops rem rem) with
  | some (i, d, v) => forceD 4 v fun v => putK env d v fun env => some ([(next i rem, env, M)], x)
  | none => match readyL rem with
    | [] => none
    | r :: rs => eachP P T self ops St lim lo gl rem env M (r :: rs) x
def stepF (P : Program) (T : Tab) (self : Self) (ops : Array Oper) (St : List (Nat × List Value)) (lim lo : Nat) (gl : List (Nat × List Value)) : List Pt → List Pt → XE → Option (List Pt × XE)
  | [], acc, x => some (acc, x)
  | (rem, env, M) :: F, acc, x => match succE P T self ops St lim lo gl rem env M x with
    | some (ys, x) => (match addAll lim lo gl ys acc with
      | some acc' => stepF P T self ops St lim lo gl F acc' x
      | none => none)
    | none => none
/-- How far it comes: to the end, or to where one operation must come that is no plain one. -/
inductive Lv where
  | fin (e : Env) (M : Mem)
  | stop (n : Nat) (rem : List Ent) (e : Env) (M : Mem)
  | exit (ch : List PanicEntry) (M : Mem)
def doneE (F : List Pt) : Option Lv := match F with
  | [(rem, env, M)] => (match readyL rem with
    | [] => some (.fin env M)
    | _ => none)
  | _ => none
def stopE (n : Nat) (F : List Pt) : Option Lv := match F with
  | [(rem, env, M)] => some (.stop n rem env M)
  | _ => none
def exitE (x : XE) (F : List Pt) : Option Lv := match x with
  | some (ch, M) => (match F with
    | [] => some (.exit ch M)
    | _ => none)
  | none => doneE F
def levE (P : Program) (T : Tab) (self : Self) (ops : Array Oper) (St : List (Nat × List Value)) (lim lo : Nat) (gl : List (Nat × List Value)) : Nat → List Pt → XE → Option Lv
  | 0, F, x => exitE x F
  | n + 1, F, x => match exitE x F with
    | some y => some y
    | none => match stepF P T self ops St lim lo gl F [] x with
      | some (F', x') => levE P T self ops St lim lo gl n F' x'
      | none => match x with
        | none => stopE (n + 1) F
        | some _ => none

/-! ### Any order, in a round or not, a condition on the world kept behind each operation. -/
section
variable {P : Program} {ro : Option Nat} {ops : Array Oper} {Q : Exit → Act → World → Prop} {S : World → Prop}
def NoDef (ops : Array Oper) : Prop := ∀ o ∈ ops.toList, ∀ c, o.op ≠ .defer c
theorem NoDef.at {ops : Array Oper} (h : NoDef ops) {i : Nat} {o : Oper} (hi : ops[i]? = some o) : ∀ c, o.op ≠ .defer c :=
  h o (by rw [← Array.getElem?_toList] at hi; exact List.mem_of_getElem? hi)
/-- One operation, then K. -/
theorem opI_val {i : Nat} {o : Oper} {v : Value} {a : Act} {w : World} {K : Act → World → Prop} (hd : NoDef ops) (hi : ops[i]? = some o) (hy : YieldsIf P ops S o v a) (hS : S w) (hK : K (a.put o.dst v) w) : wpOpIn (FR ro) 0 P ops Q i K a w := by
  unfold wpOpIn
  simp only [hi]
  rcases hy with ⟨hw, hv⟩ | ⟨hw, rfl⟩
  · rw [if_pos hw]
    refine ⟨fun _ _ => trivial, ?_⟩
    rw [Oper.semAt_eq _ _ _ (hd.at hi), hv w hS]
    exact hK
  · rw [hw, if_neg (by simp)]
    exact ⟨fun _ _ => trivial, hK⟩
/-- What 'oi' yields may be there already when 'oj' comes, which is apart from it. -/
theorem opI_swap {j : Nat} {oi oj : Oper} {v : Value} (hd : NoDef ops) (hj : ops[j]? = some oj) (hap : oi.apart ops oj = true)
    (hsi : ∀ cs b, oi.op ≠ .select cs b) (hsj : ∀ cs b, oj.op ≠ .select cs b) (hQ : ∀ c a w, Q (.panic c) (a.put oi.dst v) w → Q (.panic c) a w)
    {K : Act → World → Prop} {a : Act} {w : World} (hy : YieldsIf P ops S oi v a) (h : wpOpIn (FR ro) 0 P ops Q j K (a.put oi.dst v) w) :
    wpOpIn (FR ro) 0 P ops Q j (fun a' w' => YieldsIf P ops S oi v a' ∧ K (a'.put oi.dst v) w') a w := by
  obtain ⟨p1, p2, p3⟩ := Oper.apart_spec hap
  have on : ∀ u, YieldsIf P ops S oi v (a.put oj.dst u) := fun u => hy.of_same (execOp_put oi hsi a oj.dst u p3) (wanted_put oi a oj.dst u p3)
  have sw : ∀ u, (a.put oi.dst v).put oj.dst u = (a.put oj.dst u).put oi.dst v := fun u => Act.put_comm a v u p2
  have fin : ∀ u w', K ((a.put oi.dst v).put oj.dst u) w' → YieldsIf P ops S oi v (a.put oj.dst u) ∧ K ((a.put oj.dst u).put oi.dst v) w' := fun u w' hk => ⟨on u, by rw [← sw u]; exact hk⟩
  unfold wpOpIn at h ⊢
  simp only [hj] at h ⊢
  rw [wanted_put oj a oi.dst v p1] at h
  by_cases hw : Region.wanted oj (yielded ops a.tmps) = true
  · rw [if_pos hw] at h ⊢
    refine ⟨fun _ _ => trivial, ?_⟩
    have h := h.2
    rw [Oper.semAt_eq _ _ _ (hd.at hj), execOp_put oj hsj a oi.dst v p1] at h
    rw [Oper.semAt_eq _ _ _ (hd.at hj)]
    generalize (execOp a.eval oj).run P w = q at h ⊢
    cases q with
    | halt x w' => cases x <;> first | exact h | exact hQ _ _ _ h
    | ok x w' =>
      cases x with
      | value u => exact fin u w' h
      | skip => exact fin _ w' h
      | defer d =>
        refine ⟨?_, ?_⟩
        · have : YieldsIf P ops S oi v { a with defers := d :: a.defers } := hy.of_same rfl rfl
          exact this.of_same (execOp_put oi hsi _ oj.dst _ p3) (wanted_put oi _ oj.dst _ p3)
        · have e : ({ a.put oi.dst v with defers := d :: (a.put oi.dst v).defers } : Act) = ({ a with defers := d :: a.defers } : Act).put oi.dst v := by
            cases oi.dst <;> rfl
          have h' : K (({ a.put oi.dst v with defers := d :: (a.put oi.dst v).defers } : Act).put oj.dst Go.undef) w' := h
          rw [e, Act.put_comm _ v Go.undef p2] at h'
          exact h'
      | enter f args =>
        refine ⟨h.1, CallsIn.mono h.2 fun e w2 he => ?_⟩
        cases e with
        | returned u => exact fin u w2 he
        | panicked c => exact hQ _ _ _ he
        | outgrown => exact he
      | row row args => exact ⟨h.1, RowsIn.mono h.2 fun u w2 he => fin u w2 he⟩
      | round l f tmps assign body =>
        refine ⟨h.1, RoundIn.mono h.2 fun e w2 he => ?_⟩
        cases e with
        | returned u => exact fin u w2 he
        | panicked c => exact hQ _ _ _ he
        | outgrown => exact he
      | _ => exact h
  · rw [if_neg hw] at h ⊢
    exact ⟨fun _ _ => trivial, fin _ w h.2⟩
def anyS (P : Program) (ro : Option Nat) (ops : Array Oper) (Q : Exit → Act → World → Prop) (S : World → Prop) : Nat → Array Bool → Act → World → Prop
  | 0, listed, a, w => Region.ready .any ops listed = [] ∧ Q .normal a w
  | n + 1, listed, a, w => (Region.ready .any ops listed = [] → Q .normal a w) ∧
    ∀ i ∈ Region.ready .any ops listed, wpOpIn (FR ro) 0 P ops Q i (fun a' w' => S w' ∧ anyS P ro ops Q S n (listed.setIfInBounds i true) a' w') a w
theorem anyS_in : ∀ (n : Nat) {listed : Array Bool} {a : Act} {w : World}, anyS P ro ops Q S n listed a w → wpAnyIn (FR ro) 0 P .any ops Q n listed a w
  | 0, _, _, _, h => h
  | n + 1, _, _, _, h => ⟨h.1, fun i hi => wpOpIn_mono (fun _ _ h' => anyS_in n h'.2) (h.2 i hi)⟩
theorem anyS_end {listed : Array Bool} {a : Act} {w : World} (hr : Region.ready .any ops listed = []) (h : Q .normal a w) : ∀ n, anyS P ro ops Q S n listed a w
  | 0 => ⟨hr, h⟩
  | _ + 1 => ⟨fun _ => h, fun i hi => by rw [hr] at hi; cases hi⟩
theorem anyS_first {i : Nat} {oi : Oper} {v : Value} (hd : NoDef ops) (hi : ops[i]? = some oi) (hsel : Region.noSelect ops = true) (hQ : ∀ c a w, Q (.panic c) (a.put oi.dst v) w → Q (.panic c) a w) :
    ∀ (n : Nat) {listed : Array Bool} {a : Act} {w : World},
      (∀ (j : Nat) oj, ops[j]? = some oj → j ≠ i → listed.getD j true = false → (∀ e ∈ oj.after, Region.binds .any e = true → e.on ≠ i) → oi.apart ops oj = true) →
      i ∈ Region.ready .any ops listed → YieldsIf P ops S oi v a → S w → anyS P ro ops Q S n (listed.setIfInBounds i true) (a.put oi.dst v) w → anyS P ro ops Q S (n + 1) listed a w := by
  have hns := Region.noSelect_spec hsel
  intro n
  induction n with
  | zero =>
    intro listed a w _ hr hy hS h
    refine ⟨fun e => (by rw [e] at hr; cases hr), fun j hj => ?_⟩
    rcases Nat.decEq j i with hne | rfl
    · have := ready_mono hj hne
      rw [h.1] at this; cases this
    · exact opI_val hd hi hy hS ⟨hS, h⟩
  | succ n ih =>
    intro listed a w hfree hr hy hS h
    refine ⟨fun e => (by rw [e] at hr; cases hr), fun j hj => ?_⟩
    rcases Nat.decEq j i with hne | rfl
    · obtain ⟨hun, oj, hoj, hall⟩ := mem_ready.1 hj
      have hfr := (mem_ready.1 hr).1
      have hno : ∀ e ∈ oj.after, Region.binds .any e = true → e.on ≠ i := fun e he hb q => by
        have h1 := hall e he hb
        rw [q] at h1
        rcases Nat.lt_or_ge i listed.size with k | k
        · simp [k] at hfr h1; rw [hfr] at h1; cases h1
        · simp [Array.getElem?_eq_none k] at h1
      refine wpOpIn_mono (fun a' w' q => ⟨q.2.1, ih (fun k ok hk hki hkun hkno => hfree k ok hk hki ?_ hkno) (ready_mono hr (Ne.symm hne)) q.1 q.2.1 ?_⟩) (opI_swap hd hoj (hfree j oj hoj hne hun hno) (fun cs b => hns i oi cs b hi) (fun cs b => hns j oj cs b hoj) hQ hy (h.2 j (ready_mono hj hne)))
      · rcases Nat.decEq j k with e | e
        · rw [getD_set_ne true e] at hkun; exact hkun
        · subst e; exact hun
      · rw [Array.setIfInBounds_comm _ _ hne]
        exact q.2.2
    · exact opI_val hd hi hy hS ⟨hS, h⟩
theorem anyS_take {i : Nat} {oi : Oper} {v : Value} {n : Nat} {listed : Array Bool} {a : Act} {w : World} (hd : NoDef ops) (hi : ops[i]? = some oi) (hsel : Region.noSelect ops = true) (hf : Region.free .any ops listed i = true)
    (hr : i ∈ Region.ready .any ops listed) (hQ : ∀ c a w, Q (.panic c) (a.put oi.dst v) w → Q (.panic c) a w) (hy : YieldsIf P ops S oi v a) (hS : S w) (h : anyS P ro ops Q S n (listed.setIfInBounds i true) (a.put oi.dst v) w) : anyS P ro ops Q S (n + 1) listed a w :=
  anyS_first hd hi hsel hQ n (Region.free_spec hi hf) hr hy hS h
end

/-! ### Soundness of a region that draws its order. -/
structure Inv (r0 : Nat → Option (Nat × Nat)) (M0 : Mem) (w0 : World) (St : List (Nat × List Value)) (r : Nat → Option (Nat × Nat)) (M : Mem) (w : World) : Prop where
  ext : ∀ i g, r0 i = some g → r i = some g
  size : w0.heap.size ≤ w.heap.size
  stay : Stay St r0 w0 w
  apart : ∀ i cs g, look M.bl i = some cs → r i = some g → look St i = none → ∀ j ds h, look St j = some ds → r0 j = some h → h.1 ≠ g.1

theorem storeA_look {P : Program} {M M' : Mem} {t : TypeId} {a : Addr} {u : Value} (h : storeA P M t (.pointer (some a)) u = some M') : ∃ ds, look M.bl a.block = some ds := by
  unfold storeA at h
  cases hl : look M.bl a.block with
  | none => simp only [hl] at h; cases h
  | some cs => exact ⟨cs, rfl⟩

theorem step_sound {P : Program} (hN : noRoutines P) {G : List (Nat × List Value)} {T : Tab} (hT : TOk P G T) {self : Self} (hself : SelfOk P G self) {St : List (Nat × List Value)} {env : Env} {M M' : Mem} {o : Oper} {v : Value} {r r0 : Nat → Option (Nat × Nat)} {M0 : Mem} {w0 : World} {a : Act} {w : World}
    (h : stepE P T self St env M o = some (v, M')) (he : ER r env a.tmps) (hM : MR r M w) (hM0 : MR r0 M0 w0) (hSt : ∀ i cs, look St i = some cs → look M0.bl i = some cs) (hI : Inv r0 M0 w0 St r M w) (hG : M.gl = G)
    (ro : Option Nat) (hnd : ∀ c, o.op ≠ .defer c) {K : Act → World → Prop} {Q : Exit → Act → World → Prop} (hK : ∀ r' v' w', VR r' v v' → MR r' M' w' → Stp r M w r' M' w' → Inv r0 M0 w0 St r' M' w' → K (a.put o.dst v') w') : o.wpIn (FR ro) 0 P a w K Q := by
  have far : ∀ i cs g, look St i = some cs → r0 i = some g → g.1 < w.heap.size := fun i cs g hl hi => by
    have := hM0.lt (hSt i cs hl) hi
    have := hI.size
    omega
  -- the objects are no blocks
  have noOb : ∀ i cs g, look St i = some cs → r0 i = some g → ∀ j o k, look M.ob j = some o → r j = some k → k.1 ≠ g.1 := fun i cs g hl hi j o k ho hk e => by
    obtain ⟨g', t, cc, k1, k2, _⟩ := hM0.blk i cs (hSt i cs hl)
    rw [hi] at k1; cases k1
    obtain ⟨k', x, k3, k4, k5⟩ := hM.obj j o ho
    rw [hk] at k3; cases k3
    rw [e, hI.stay i cs g hl hi, k2] at k4; cases k4
    exact k5.not_cells
  unfold stepE at h
  split at h
  · exact opV_soundIn hN hT hself ro h hnd he hM hG fun r' v' w' h1 h2 h3 => hK r' v' w' h1 h2 h3
      ⟨fun i g hi => h3.ext _ _ (hI.ext i g hi), Nat.le_trans hI.size h3.size, fun i cs g hl => (by cases hl), fun _ _ _ _ _ _ j ds k hl => (by cases hl)⟩
  · split at h
    · rename_i b hb
      split at h
      case h_2 => cases h
      rename_i hlk
      -- a store into another block
      obtain ⟨dst, op, ty, pos, after, guard⟩ := o
      unfold storeTo at hb
      split at hb
      case h_2 => cases hb
      rename_i t x y hop
      simp only at hop
      subst hop
      split at hb
      case h_2 => cases hb
      rename_i ad hx
      cases hb
      have hx' := ev_sound he hx
      obtain ⟨hs, g, hg, hv⟩ := hx'.of_ptr
      -- what the evaluator did is the store
      have hst : ∃ u, ev env y = some u ∧ ∃ M2, storeA P M t (.pointer (some ad)) u = some M2 ∧ v = Go.undef ∧ M' = M2 := by
        have hn : nextP P env ⟨dst, .store t x y, ty, pos, after, guard⟩ = none := by
          simp [nextP, isSelect, afAll, Op.operands, hx, af]
        simp only [opV, opE, calleeA, opT, opS, opC, opX, opZ, panicA, hx] at h
        cases hy : ev env y with
        | none => rw [hy] at h; simp only [hn] at h; cases h
        | some u =>
          rw [hy] at h
          simp only at h
          cases hq : storeA P M t (.pointer (some ad)) u with
          | none => rw [hq] at h; simp only [hn] at h; cases h
          | some M2 => rw [hq] at h; cases h; exact ⟨u, rfl, _, hq, rfl, rfl⟩
      obtain ⟨u, hy, M2, hq, rfl, rfl⟩ := hst
      obtain ⟨w', h3, h4, h5, h6⟩ := storeAt_sound hM t hx' (ev_sound he hy) hq
      obtain ⟨ds, hds⟩ := storeA_look hq
      refine ⟨fun _ _ => trivial, ?_⟩
      rw [Oper.semAt_eq _ _ _ hnd]
      have hrun : (execOp a.eval ⟨dst, .store t x y, ty, pos, after, guard⟩).run P w = .ok .skip w' := run_unit h3
      rw [hrun]
      refine hK r Go.undef w' (.undef r) h4 h5 ⟨hI.ext, Nat.le_trans hI.size h5.size, fun i cs g' hl hi => ?_, fun i cs g' hl hi hn => ?_⟩
      · rw [h6 ad g rfl hg g'.1 (hI.apart ad.block ds g hds hg hlk i cs g' hl hi), hI.stay i cs g' hl hi]
      · obtain ⟨ds', h7⟩ := h5.old i cs hl (hM.bound i g' hi)
        exact hI.apart i ds' g' h7 hi hn
    · split at h
      · rename_i u M2 hq
        cases h
        have hM1 : MR r { M with lo := 64 * M.next } w := ⟨hM.blk, hM.inj, hM.bound, fun i cs hl => ⟨hM.globlt hl, (hM.glob i cs hl).2⟩, hM.obj, hM.injO⟩
        refine opV_soundIn hN hT hself ro hq hnd he hM1 hG fun r' v' w' h1 h2 h3 => ?_
        have keep : ∀ k, k < w.heap.size → (∀ i o g, look M.ob i = some o → r i = some g → g.1 ≠ k) → w'.heap[k]? = w.heap[k]? := fun k hk hn => h3.keep k hk (fun i cs g hlo hl hi => by
          obtain ⟨g', _, _, h4, _⟩ := hM.blk i cs hl
          have := hM.bound i g' h4
          simp only at hlo
          omega) hn
        have hst : Stp r M w r' { M2 with lo := M.lo } w' := ⟨h3.ext, rfl, h3.next, h3.old, h3.os, h3.tape, h3.output, h3.size, fun k hk _ hn => keep k hk hn, fun i cs g hlo hl hi hg => by
          rcases Nat.lt_or_ge i (64 * M.next) with q | q
          · obtain ⟨ds, h5⟩ := h3.old i cs hl q
            obtain ⟨g', _, _, h6, _⟩ := hM.blk i ds h5
            have := h3.ext _ _ h6
            rw [hi] at this; cases this
            exact ⟨i, ds, _, hlo, h5, h6, rfl⟩
          · obtain ⟨j, ds, g', h5, h6, h7, _⟩ := h3.anc i cs g (by rw [h3.lo]; exact q) hl hi hg
            have := hM.bound j g' h7
            simp only at h5
            omega, h3.gl, h3.ancO⟩
        refine hK r' v' w' h1 ⟨h2.blk, h2.inj, h2.bound, fun i cs hl => ⟨(hM.glob i cs (by rw [← h3.gl]; exact hl)).1, (h2.glob i cs hl).2⟩, h2.obj, h2.injO⟩ hst ⟨fun i g hi => h3.ext _ _ (hI.ext i g hi), Nat.le_trans hI.size h3.size, fun i cs g hl hi => ?_, fun i cs g hl hi hn j ds k hj hk => ?_⟩
        · rw [keep g.1 (far i cs g hl hi) (noOb i cs g hl hi), hI.stay i cs g hl hi]
        · rcases Nat.lt_or_ge i (64 * M.next) with q | q
          · obtain ⟨es, h5⟩ := h3.old i cs hl q
            obtain ⟨g', _, _, h6, _⟩ := hM.blk i es h5
            have := h3.ext _ _ h6
            rw [hi] at this; cases this
            exact hI.apart i es _ h5 h6 hn j ds k hj hk
          · rcases Nat.lt_or_ge g.1 w.heap.size with q' | q'
            · obtain ⟨m, es, g', h5, h6, h7, _⟩ := h3.anc i cs g (by rw [h3.lo]; exact q) hl hi q'
              have := hM.bound m g' h7
              simp only at h5
              omega
            · have := far j ds k hj hk
              omega
      · cases hlo : Nat.ble M.lo (64 * M.next) with
        | false => rw [hlo] at h; cases h
        | true =>
          rw [hlo] at h
          simp only [cond_true] at h
          split at h
          case h_2 => cases h
          rename_i u M2 hq
          cases h
          have hpub : ∀ i cs, look M.gl i = some cs → pub St M.gl i = true := fun i cs hl => by
            unfold pub
            rw [hl]
            cases look St i <;> rfl
          have hM1 : MR r { M with bl := sel (pub St M.gl) M.bl } w := hM.sub (fun i cs hl => (look_sel_some hl).2) fun i cs hl => by
            rw [look_sel, hpub i cs hl]
            exact (hM.glob i cs hl).2.1
          refine opV_soundIn hN hT hself ro hq hnd he hM1 hG fun r' v' w' h1 h2 h3 => ?_
          obtain ⟨h4, h5⟩ := hide_sound hM (Nat.le_of_ble_eq_true hlo) h2 h3
          -- a block that may be written to is none of those that stay
          have wr : ∀ {i cs g}, M.lo ≤ i → look (sel (pub St M.gl) M.bl) i = some cs → r i = some g → ∀ j ds k, look St j = some ds → r0 j = some k → k.1 ≠ g.1 := fun {i cs g} hl hs hi => by
            obtain ⟨k1, k2⟩ := look_sel_some hs
            refine hI.apart i cs g k2 hi ?_
            unfold pub at k1
            cases hst : look St i with
            | none => rfl
            | some x =>
              rw [hst] at k1
              simp only at k1
              cases hgl : look M.gl i with
              | none => rw [hgl] at k1; cases k1
              | some y =>
                have := (hM.glob i y hgl).1
                omega
          refine hK r' v' w' h1 h4 h5 ⟨fun i g hi => h3.ext _ _ (hI.ext i g hi), Nat.le_trans hI.size h3.size, fun i cs g hl hi => ?_, fun i cs g hl hi hn j ds k hj hk => ?_⟩
          · rw [h3.keep g.1 (far i cs g hl hi) (fun j ds k k1 k2 k3 e => wr k1 k2 k3 i cs g hl hi e.symm) (noOb i cs g hl hi), hI.stay i cs g hl hi]
          · simp only [look_append] at hl
            cases hb : look M2.bl i with
            | none =>
              rw [hb] at hl
              obtain ⟨k1, _⟩ := look_sel_some hl
              have : pub St M.gl i = true := by unfold pub; rw [hn]
              rw [this] at k1; cases k1
            | some c =>
              rcases Nat.lt_or_ge i (64 * M.next) with q | q
              · obtain ⟨es, m1⟩ := h3.old i c hb q
                obtain ⟨m2, m3⟩ := look_sel_some m1
                obtain ⟨g', _, _, m4, _⟩ := hM.blk i es m3
                have := h3.ext _ _ m4
                rw [hi] at this; cases this
                exact hI.apart i es _ m3 m4 hn j ds k hj hk
              · rcases Nat.lt_or_ge g.1 w.heap.size with q' | q'
                · obtain ⟨m, es, g', m1, m2, m3, m4⟩ := h3.anc i c g (by rw [h3.lo]; exact Nat.le_trans (Nat.le_of_ble_eq_true hlo) q) hb hi q'
                  rw [← m4]
                  exact wr m1 m2 m3 j ds k hj hk
                · have := far j ds k hj hk
                  omega

section
variable {P : Program} {T : Tab} {self : Self} {ops : Array Oper} {St : List (Nat × List Value)} {r0 : Nat → Option (Nat × Nat)} {M0 : Mem} {w0 : World}
theorem beqE_eq {listed listed' : Array Bool} : ∀ {x y : List Ent}, (∀ e ∈ x, ops[e.i]? = some e.o) → (∀ e ∈ y, ops[e.i]? = some e.o) → beqE x y = true → x = y
  | [], [], _, _, _ => rfl
  | [], _ :: _, _, _, h => by cases h
  | _ :: _, [], _, _, h => by cases h
  | ⟨i, o, p⟩ :: r, ⟨j, o', q⟩ :: s, hx, hy, h => by
    simp only [beqE] at h
    cases h1 : Nat.beq i j with
    | false => rw [h1] at h; cases h
    | true =>
      rw [h1] at h
      cases h2 : beqN p q with
      | false => rw [h2] at h; cases h
      | true =>
        rw [h2] at h
        have e := Nat.eq_of_beq_eq_true h1
        subst e
        have k1 := hx _ List.mem_cons_self
        have k2 := hy _ List.mem_cons_self
        simp only at k1 k2
        rw [k1] at k2; cases k2
        rw [beqN_eq h2, beqE_eq (listed := listed) (listed' := listed') (fun e he => hx e (List.mem_cons_of_mem _ he)) (fun e he => hy e (List.mem_cons_of_mem _ he)) h]
def ValP (ops : Array Oper) (x : Pt) : Prop := ∀ e ∈ x.1, ops[e.i]? = some e.o
def LeP (St : List (Nat × List Value)) (r0 : Nat → Option (Nat × Nat)) (M0 : Mem) (w0 : World) (x y : Pt) : Prop := x.1 = y.1 ∧ ∀ r tmps w, SR St r0 M0 w0 x.2.1 x.2.2 r tmps w → ∃ r', SR St r0 M0 w0 y.2.1 y.2.2 r' tmps w
theorem LeP.refl (x : Pt) : LeP St r0 M0 w0 x x := ⟨rfl, fun r _ _ h => ⟨r, h⟩⟩
theorem LeP.trans {x y z : Pt} (h : LeP St r0 M0 w0 x y) (k : LeP St r0 M0 w0 y z) : LeP St r0 M0 w0 x z := ⟨h.1.trans k.1, fun r t w hs => by obtain ⟨r', h'⟩ := h.2 r t w hs; exact k.2 r' t w h'⟩
theorem addP_spec (hM0 : MR r0 M0 w0) (hSt : ∀ i cs, look St i = some cs → look M0.bl i = some cs) {rx : List Ent} {ex : Env} {Mx : Mem} (hx : ValP ops (rx, ex, Mx)) : ∀ {l l' : List Pt}, (∀ y ∈ l, ValP ops y) → addP (64 * M0.next) M0.lo M0.gl rx ex Mx l = some l' →
    (∀ z ∈ l', ValP ops z) ∧ (∀ y ∈ l, ∃ z ∈ l', LeP St r0 M0 w0 y z) ∧ ∃ z ∈ l', LeP St r0 M0 w0 (rx, ex, Mx) z
  | [], l', _, h => by
    cases h
    exact ⟨fun z hz => by rw [List.mem_singleton.1 hz]; exact hx, fun _ h => (by cases h), _, List.mem_singleton.2 rfl, .refl _⟩
  | (ry, ey, My) :: l, l', hl, h => by
    simp only [addP] at h
    cases hb : beqE ry rx with
    | true =>
      rw [hb] at h
      simp only [cond_true] at h
      split at h
      case h_2 => cases h
      rename_i C hC
      simp only [forceM_eq] at h
      cases h
      have e := beqE_eq (listed := #[]) (listed' := #[]) (hl _ List.mem_cons_self) hx hb
      simp only at e
      subst e
      unfold simE at hC
      simp only [forceL_eq] at hC
      refine ⟨fun z hz => ?_, fun y hy => ?_, _, List.mem_cons_self, rfl, fun r t w hs => ⟨_, sim_right hM0 hSt hC hs⟩⟩
      · rcases List.mem_cons.1 hz with rfl | hz
        · exact fun e he => hl (ry, ey, My) List.mem_cons_self e he
        · exact hl _ (List.mem_cons_of_mem _ hz)
      · rcases List.mem_cons.1 hy with rfl | hy
        · exact ⟨_, List.mem_cons_self, rfl, fun r t w hs => ⟨r, sim_left hC hs⟩⟩
        · exact ⟨y, List.mem_cons_of_mem _ hy, .refl _⟩
    | false =>
      rw [hb] at h
      simp only [cond_false] at h
      split at h
      case h_2 => cases h
      rename_i l2 hl2
      cases h
      obtain ⟨k1, k2, z, k3, k4⟩ := addP_spec hM0 hSt hx (fun y hy => hl y (List.mem_cons_of_mem _ hy)) hl2
      refine ⟨fun z hz => ?_, fun y hy => ?_, z, List.mem_cons_of_mem _ k3, k4⟩
      · rcases List.mem_cons.1 hz with rfl | hz
        · exact hl _ List.mem_cons_self
        · exact k1 z hz
      · rcases List.mem_cons.1 hy with rfl | hy
        · exact ⟨_, List.mem_cons_self, .refl _⟩
        · obtain ⟨z, q1, q2⟩ := k2 y hy
          exact ⟨z, List.mem_cons_of_mem _ q1, q2⟩
theorem addAll_spec (hM0 : MR r0 M0 w0) (hSt : ∀ i cs, look St i = some cs → look M0.bl i = some cs) : ∀ {xs l l' : List Pt}, (∀ x ∈ xs, ValP ops x) → (∀ y ∈ l, ValP ops y) → addAll (64 * M0.next) M0.lo M0.gl xs l = some l' →
    (∀ z ∈ l', ValP ops z) ∧ (∀ y ∈ l, ∃ z ∈ l', LeP St r0 M0 w0 y z) ∧ ∀ x ∈ xs, ∃ z ∈ l', LeP St r0 M0 w0 x z
  | [], l, l', _, hl, h => by cases h; exact ⟨hl, fun y hy => ⟨y, hy, .refl _⟩, fun _ h => (by cases h)⟩
  | (rx, ex, Mx) :: xs, l, l', hx, hl, h => by
    simp only [addAll] at h
    split at h
    case h_2 => cases h
    rename_i l1 h1
    obtain ⟨k1, k2, z0, k3, k4⟩ := addP_spec hM0 hSt (hx _ List.mem_cons_self) hl h1
    obtain ⟨m1, m2, m3⟩ := addAll_spec hM0 hSt (fun x q => hx x (List.mem_cons_of_mem _ q)) k1 h
    refine ⟨m1, fun y hy => ?_, fun x q => ?_⟩
    · obtain ⟨z, q1, q2⟩ := k2 y hy
      obtain ⟨z', q3, q4⟩ := m2 z q1
      exact ⟨z', q3, q2.trans q4⟩
    · rcases List.mem_cons.1 q with rfl | q
      · obtain ⟨z', q3, q4⟩ := m2 z0 k3
        exact ⟨z', q3, k4.trans q4⟩
      · exact m3 x q
theorem ValP.next {rem : List Ent} {env env' : Env} {M M' : Mem} (h : ValP ops (rem, env, M)) (i : Nat) : ValP ops (next i rem, env', M') := fun e he => by
  obtain ⟨e0, h1, _, rfl⟩ := mem_next.1 he
  exact h e0 h1
/-- Memory alone, no block asked to stay. -/
def XR (r0 : Nat → Option (Nat × Nat)) (M0 : Mem) (w0 : World) (M : Mem) (r : Nat → Option (Nat × Nat)) (w : World) : Prop := MR r M w ∧ Stp r0 M0 w0 r M w
def LeX (r0 : Nat → Option (Nat × Nat)) (M0 : Mem) (w0 : World) (c : List PanicEntry) (M : Mem) (x : XE) : Prop := ∃ M', x = some (c, M') ∧ ∀ r w, XR r0 M0 w0 M r w → ∃ r', XR r0 M0 w0 M' r' w
theorem LeX.own (c : List PanicEntry) (M : Mem) : LeX r0 M0 w0 c M (some (c, M)) := ⟨M, rfl, fun r _ h => ⟨r, h⟩⟩
theorem LeX.trans {c c' : List PanicEntry} {M M' : Mem} {x : XE} (h : LeX r0 M0 w0 c M (some (c', M'))) (k : LeX r0 M0 w0 c' M' x) : LeX r0 M0 w0 c M x := by
  obtain ⟨_, e, h2⟩ := h
  cases e
  obtain ⟨M2, rfl, k2⟩ := k
  exact ⟨M2, rfl, fun r w q => by obtain ⟨r', q'⟩ := h2 r w q; exact k2 r' w q'⟩
/-- Exits only grow weaker. -/
def GeX (r0 : Nat → Option (Nat × Nat)) (M0 : Mem) (w0 : World) (x x' : XE) : Prop := ∀ c M, x = some (c, M) → LeX r0 M0 w0 c M x'
theorem GeX.refl (x : XE) : GeX r0 M0 w0 x x := fun c M e => by subst e; exact .own c M
theorem GeX.trans {x y z : XE} (h : GeX r0 M0 w0 x y) (k : GeX r0 M0 w0 y z) : GeX r0 M0 w0 x z := fun c M e => by
  obtain ⟨M', e', h2⟩ := h c M e
  subst e'
  exact LeX.trans (M' := M') ⟨M', rfl, h2⟩ (k c M' rfl)
theorem GeX.on {c : List PanicEntry} {M : Mem} {y z : XE} (h : LeX r0 M0 w0 c M y) (k : GeX r0 M0 w0 y z) : LeX r0 M0 w0 c M z := by
  obtain ⟨M', e', h2⟩ := h
  subst e'
  exact LeX.trans (M' := M') ⟨M', rfl, h2⟩ (k c M' rfl)
theorem addX_spec (hM0 : MR r0 M0 w0) {x x' : XE} {c : List PanicEntry} {M : Mem} (h : addX (64 * M0.next) M0.lo M0.gl x c M = some x') : GeX r0 M0 w0 x x' ∧ LeX r0 M0 w0 c M x' := by
  have e00 : ∀ (r : Nat → Option (Nat × Nat)), ER r env00 #[] := fun r => ⟨rfl, fun i => by
    have : env00.get i = Go.undef := getT_e _
    rw [this]
    exact .undef r, fun g hg => by cases hg⟩
  cases x with
  | none =>
    cases h
    exact ⟨fun _ _ e => (by cases e), .own c M⟩
  | some p =>
    obtain ⟨c0, A⟩ := p
    simp only [addX] at h
    cases hc : eqCh c0 c with
    | false => rw [hc] at h; cases h
    | true =>
      rw [hc] at h
      simp only [cond_true] at h
      split at h
      case h_2 => cases h
      rename_i C hC
      simp only [forceM_eq] at h
      cases h
      have e := eqCh_eq hc
      subst e
      unfold simE at hC
      simp only [forceL_eq] at hC
      have up : ∀ {M r w}, XR r0 M0 w0 M r w → SR [] r0 M0 w0 env00 M r #[] w := fun q => ⟨e00 _, q.1, q.2, fun _ _ _ _ _ _ j ds h hj => by cases hj⟩
      refine ⟨fun c' M' e => ?_, C, rfl, fun r w q => ?_⟩
      · cases e
        refine ⟨C, rfl, fun r w q => ?_⟩
        have := sim_left hC (up q)
        exact ⟨r, this.mr, this.stp⟩
      · have := sim_right hM0 (fun i cs hl => by cases hl) hC (up q)
        exact ⟨_, this.mr, this.stp⟩
theorem eachP_spec (hM0 : MR r0 M0 w0) {rem : List Ent} {env : Env} {M : Mem} : ∀ {rs : List (Nat × Oper)} {ys : List Pt} {x x' : XE}, eachP P T self ops St (64 * M0.next) M0.lo M0.gl rem env M rs x = some (ys, x') →
    (∀ i o, (i, o) ∈ rs → (∃ env' M', bestE P T self ops St env M o = some (env', M') ∧ (next i rem, env', M') ∈ ys) ∨ ∃ c M', panE P T self ops env M o = some (c, M') ∧ LeX r0 M0 w0 c M' x') ∧
    (ValP ops (rem, env, M) → ∀ y ∈ ys, ValP ops y) ∧ GeX r0 M0 w0 x x'
  | [], ys, x, x', h => by cases h; exact ⟨fun _ _ h => (by cases h), fun _ _ h => (by cases h), .refl _⟩
  | (i, o) :: rs, ys, x, x', h => by
    simp only [eachP] at h
    split at h
    · rename_i env1 M1 h1
      split at h
      case h_2 => cases h
      rename_i ys1 x1 h2
      cases h
      obtain ⟨k1, k2, k3⟩ := eachP_spec hM0 h2
      refine ⟨fun j o' hj => ?_, fun hv y hy => ?_, k3⟩
      · rcases List.mem_cons.1 hj with hj | hj
        · cases hj; exact .inl ⟨env1, M1, h1, List.mem_cons_self⟩
        · rcases k1 j o' hj with ⟨e, m, q1, q2⟩ | q
          · exact .inl ⟨e, m, q1, List.mem_cons_of_mem _ q2⟩
          · exact .inr q
      · rcases List.mem_cons.1 hy with rfl | hy
        · exact hv.next i
        · exact k2 hv y hy
    · split at h
      case h_2 => cases h
      rename_i c M1 hp
      split at h
      case h_2 => cases h
      rename_i x1 hx
      obtain ⟨a1, a2⟩ := addX_spec hM0 hx
      obtain ⟨k1, k2, k3⟩ := eachP_spec hM0 h
      refine ⟨fun j o' hj => ?_, k2, a1.trans k3⟩
      rcases List.mem_cons.1 hj with hj | hj
      · cases hj; exact .inr ⟨c, M1, hp, GeX.on a2 k3⟩
      · exact k1 j o' hj
theorem succ_spec (hM0 : MR r0 M0 w0) {rem : List Ent} {env : Env} {M : Mem} {ys : List Pt} {x x' : XE} (h : succE P T self ops St (64 * M0.next) M0.lo M0.gl rem env M x = some (ys, x')) : (ValP ops (rem, env, M) → ∀ y ∈ ys, ValP ops y) ∧ GeX r0 M0 w0 x x' := by
  unfold succE at h
  split at h
  · simp only [forceD_eq, putK_eq] at h
    cases h
    refine ⟨fun hv y hy => ?_, .refl _⟩
    rw [List.mem_singleton.1 hy]
    exact hv.next _
  · split at h
    · cases h
    · obtain ⟨_, k2, k3⟩ := eachP_spec hM0 h
      exact ⟨k2, k3⟩
theorem stepF_spec (hM0 : MR r0 M0 w0) (hSt : ∀ i cs, look St i = some cs → look M0.bl i = some cs) : ∀ {F acc F' : List Pt} {x x' : XE}, (∀ x ∈ F, ValP ops x) → (∀ y ∈ acc, ValP ops y) → stepF P T self ops St (64 * M0.next) M0.lo M0.gl F acc x = some (F', x') →
    (∀ z ∈ F', ValP ops z) ∧ (∀ y ∈ acc, ∃ z ∈ F', LeP St r0 M0 w0 y z) ∧ (∀ y ∈ F, ∃ ys x1 x2, succE P T self ops St (64 * M0.next) M0.lo M0.gl y.1 y.2.1 y.2.2 x1 = some (ys, x2) ∧ GeX r0 M0 w0 x2 x' ∧ ∀ z ∈ ys, ∃ z' ∈ F', LeP St r0 M0 w0 z z') ∧ GeX r0 M0 w0 x x'
  | [], acc, F', x, x', _, ha, h => by cases h; exact ⟨ha, fun y hy => ⟨y, hy, .refl _⟩, fun _ h => (by cases h), .refl _⟩
  | (rem, env, M) :: F, acc, F', x, x', hF, ha, h => by
    simp only [stepF] at h
    split at h
    case h_2 => cases h
    rename_i ys x1 h1
    split at h
    case h_2 => cases h
    rename_i acc1 h2
    obtain ⟨s1, s2⟩ := succ_spec hM0 h1
    obtain ⟨k1, k2, k3⟩ := addAll_spec hM0 hSt (s1 (hF _ List.mem_cons_self)) ha h2
    obtain ⟨m1, m2, m3, m4⟩ := stepF_spec hM0 hSt (fun x q => hF x (List.mem_cons_of_mem _ q)) k1 h
    have on : ∀ y, (∃ z ∈ acc1, LeP St r0 M0 w0 y z) → ∃ z ∈ F', LeP St r0 M0 w0 y z := fun y ⟨z, q1, q2⟩ => by
      obtain ⟨z', q3, q4⟩ := m2 z q1
      exact ⟨z', q3, q2.trans q4⟩
    refine ⟨m1, fun y hy => on y (k2 y hy), fun y q => ?_, s2.trans m4⟩
    rcases List.mem_cons.1 q with rfl | q
    · exact ⟨ys, x, x1, h1, m4, fun y hy => on y (k3 y hy)⟩
    · exact m3 y q
theorem lev_ge (hM0 : MR r0 M0 w0) (hSt : ∀ i cs, look St i = some cs → look M0.bl i = some cs) {L : Lv} : ∀ (n : Nat) {F : List Pt} {x : XE}, levE P T self ops St (64 * M0.next) M0.lo M0.gl n F x = some L → (∀ y ∈ F, ValP ops y) →
    ∀ c M, x = some (c, M) → ∃ M', L = .exit c M' ∧ ∀ r w, XR r0 M0 w0 M r w → ∃ r', XR r0 M0 w0 M' r' w := by
  have ex : ∀ {F : List Pt} {c M L}, exitE (some (c, M)) F = some L → L = .exit c M := fun {F c M L} h => by
    unfold exitE at h
    split at h
    · rename_i e
      cases e
      split at h
      · cases h; rfl
      · cases h
    · rename_i e; cases e
  intro n
  induction n with
  | zero =>
    intro F x h _ c M e
    subst e
    exact ⟨M, ex h, fun r _ q => ⟨r, q⟩⟩
  | succ n ih =>
    intro F x h hF c M e
    subst e
    simp only [levE] at h
    split at h
    · rename_i y hy
      cases h
      exact ⟨M, ex hy, fun r _ q => ⟨r, q⟩⟩
    · split at h
      case h_2 => cases h
      rename_i F' x' hF'
      obtain ⟨k1, _, _, k4⟩ := stepF_spec hM0 hSt hF (fun _ h => (by cases h)) hF'
      obtain ⟨M', e', h2⟩ := k4 c M rfl
      subst e'
      obtain ⟨M2, e2, h3⟩ := ih h k1 c M' rfl
      exact ⟨M2, e2, fun r w q => by obtain ⟨r', q'⟩ := h2 r w q; exact h3 r' w q'⟩
end

/-- What is said of where the levels end. -/
def LvOk (P : Program) (ro : Option Nat) (ops : Array Oper) (Q : Exit → Act → World → Prop) (St : List (Nat × List Value)) (r0 : Nat → Option (Nat × Nat)) (M0 : Mem) (w0 : World) (D : List Deferred) (env0 : Env) : Lv → Prop
  | .exit c M => ∀ r' a' w', EW r' (loseE ops.toList env0) a'.tmps → a'.defers = D → XR r0 M0 w0 M r' w' → Q (.panic c) a' w'
  | .fin e M => ∀ r' a' w', SR St r0 M0 w0 e M r' a'.tmps w' → a'.defers = D → Q .normal a' w'
  | .stop n rem e M => ∀ (listed : Array Bool) r' a' w', RemOk ops listed rem → SR St r0 M0 w0 e M r' a'.tmps w' → a'.defers = D → Stay St r0 w0 w' → anyS P ro ops Q (Stay St r0 w0) n listed a' w'
theorem mem_ops {ops : Array Oper} {i : Nat} {o : Oper} (h : ops[i]? = some o) : o ∈ ops.toList := by
  rw [← Array.getElem?_toList] at h
  exact List.mem_of_getElem? h
theorem lev_sound {P : Program} (hN : noRoutines P) {G : List (Nat × List Value)} {T : Tab} (hT : TOk P G T) {self : Self} (hself : SelfOk P G self) {ops : Array Oper} {St : List (Nat × List Value)} {r0 : Nat → Option (Nat × Nat)} {M0 : Mem} {w0 : World} (hsel : Region.noSelect ops = true) (hnd : NoDef ops) (ro : Option Nat)
    (hM0 : MR r0 M0 w0) (hG : M0.gl = G) (hSt : ∀ i cs, look St i = some cs → look M0.bl i = some cs) {Q : Exit → Act → World → Prop} (hp : ∀ (i : Nat) (oi : Oper) (v : Value), ops[i]? = some oi → ∀ c a w, Q (.panic c) (a.put oi.dst v) w → Q (.panic c) a w) {D : List Deferred} {env0 : Env} {L : Lv}
    (hQ : LvOk P ro ops Q St r0 M0 w0 D env0 L) : ∀ (n : Nat) {F : List Pt} {x0 : XE}, levE P T self ops St (64 * M0.next) M0.lo M0.gl n F x0 = some L → (∀ x ∈ F, ValP ops x) →
    ∀ x ∈ F, ∀ (listed : Array Bool) (r : Nat → Option (Nat × Nat)) (a : Act) (w : World), RemOk ops listed x.1 → a.defers = D → EW r0 (loseE ops.toList env0) a.tmps → SR St r0 M0 w0 x.2.1 x.2.2 r a.tmps w → Stay St r0 w0 w → anyS P ro ops Q (Stay St r0 w0) n listed a w := by
  have fin0 : ∀ {F : List Pt}, doneE F = some L → ∀ x ∈ F, ∀ (n : Nat) (listed : Array Bool) (r : Nat → Option (Nat × Nat)) (a : Act) (w : World), RemOk ops listed x.1 → a.defers = D → SR St r0 M0 w0 x.2.1 x.2.2 r a.tmps w → anyS P ro ops Q (Stay St r0 w0) n listed a w := by
    intro F h x hx n listed r a w hR hd hs
    unfold doneE at h
    split at h
    case h_2 => cases h
    split at h
    case h_2 => cases h
    rename_i hr
    cases h
    rw [List.mem_singleton.1 hx] at hR hs
    exact anyS_end (hR.done hr) (hQ r a w hs hd) n
  have fin : ∀ {F : List Pt} {x0 : XE}, exitE x0 F = some L → ∀ x ∈ F, ∀ (n : Nat) (listed : Array Bool) (r : Nat → Option (Nat × Nat)) (a : Act) (w : World), RemOk ops listed x.1 → a.defers = D → SR St r0 M0 w0 x.2.1 x.2.2 r a.tmps w → anyS P ro ops Q (Stay St r0 w0) n listed a w := by
    intro F x0 h x hx n listed r a w hR hd hs
    unfold exitE at h
    split at h
    · split at h
      · cases hx
      · cases h
    · exact fin0 h x hx n listed r a w hR hd hs
  intro n
  induction n with
  | zero => exact fun h _ x hx listed r a w hR hd _ hs _ => fin h x hx 0 listed r a w hR hd hs
  | succ n ih =>
    intro F x0 h hF x hx listed r a w hR hd htm hs hst
    simp only [levE] at h
    split at h
    · rename_i y hy
      cases h
      exact fin hy x hx _ listed r a w hR hd hs
    · split at h
      case h_2 =>
        split at h
        case h_2 => cases h
        unfold stopE at h
        split at h
        case h_2 => cases h
        cases h
        rw [List.mem_singleton.1 hx] at hR hs
        exact hQ listed r a w hR hs hd hst
      rename_i F' x' hF'
      obtain ⟨k1, _, k3, _⟩ := stepF_spec hM0 hSt hF (fun _ h => (by cases h)) hF'
      obtain ⟨ys, x1, x2, hsucc, hge, hys⟩ := k3 x hx
      obtain ⟨rem, env, M⟩ := x
      simp only at hR hs hsucc
      -- whatever comes next is one of those
      have go : ∀ y ∈ ys, ∀ (listed : Array Bool) (r : Nat → Option (Nat × Nat)) (a : Act) (w : World), RemOk ops listed y.1 → a.defers = D → EW r0 (loseE ops.toList env0) a.tmps → SR St r0 M0 w0 y.2.1 y.2.2 r a.tmps w → Stay St r0 w0 w → anyS P ro ops Q (Stay St r0 w0) n listed a w := fun y hy listed r a w q1 q2 q0 q3 q4 => by
        obtain ⟨z, hz, e, hle⟩ := hys y hy
        obtain ⟨r', q5⟩ := hle r a.tmps w q3
        exact ih h k1 z hz listed r' a w (by rw [← e]; exact q1) q2 q0 q5 q4
      have hgl : M.gl = G := hs.stp.gl.trans hG
      have hM0' : MR r0 { M0 with bl := St, gl := [], ob := [] } w0 := hM0.fewer hSt
      have hI : Inv r0 M0 w0 St r M w := ⟨hs.stp.ext, hs.stp.size, hst, hs.apart⟩
      unfold succE at hsucc
      split at hsucc
      · rename_i i d v ht
        simp only [forceD_eq, putK_eq] at hsucc
        cases hsucc
        obtain ⟨o, v', h1, h2, h4, h5⟩ := takeE_sound hs.er hs.stp.ext hM0' ht
        subst h2
        obtain ⟨q1, q2⟩ := mem_cands h1
        obtain ⟨m1, m2, _⟩ := hR.mem _ q1
        refine anyS_take hnd m1 hsel (hR.free q1 q2) (hR.ready.2 ⟨o, mem_readyL.2 q1⟩) (hp i o v' m1) h5 hst ?_
        exact go _ (List.mem_singleton.2 rfl) _ r _ w (hR.next m2) (by rw [put_defers]; exact hd) (loseE_put' (mem_ops m1) a v' htm) ⟨putA_rel hs.er o.dst h4, hs.mr, hs.stp, hs.apart⟩ hst
      · split at hsucc
        · cases hsucc
        rename_i r1 rs hr
        refine ⟨fun e => ?_, fun i hi => ?_⟩
        · obtain ⟨j, o⟩ := r1
          have : j ∈ Region.ready .any ops listed := hR.ready.2 ⟨o, by rw [hr]; exact List.mem_cons_self⟩
          rw [e] at this
          cases this
        obtain ⟨o, hio⟩ := hR.ready.1 hi
        obtain ⟨ho, hlist, _⟩ := hR.mem _ (mem_readyL.1 hio)
        simp only at ho hlist
        rcases (eachP_spec hM0 hsucc).1 i o (by rw [← hr]; exact hio) with ⟨env1, M1, hb, hmem⟩ | ⟨c, M1, hpan, hle⟩
        case inr =>
          -- it panics
          obtain ⟨M2, e2, q2⟩ := GeX.on hle hge
          subst e2
          obtain ⟨M3, e3, q3⟩ := lev_ge hM0 hSt n h k1 c M2 rfl
          subst e3
          unfold panE at hpan
          unfold wpOpIn
          simp only [ho]
          rw [wantedA_eq ops hs.er o]
          cases hw : wantedA ops env o with
          | false => rw [hw] at hpan; cases hpan
          | true =>
            rw [hw] at hpan
            simp only [cond_true] at hpan
            split at hpan
            case h_2 => cases hpan
            rename_i c' M' hop
            cases hpan
            rw [if_pos rfl]
            refine opE_soundIn hN hT hself ro hop (hnd.at ho) hs.er hs.mr hgl (fun v M' r' v' w' e => by cases e) fun ch M4 r' w' e hm hst' => ?_
            cases e
            obtain ⟨r2, u2⟩ := q2 r' w' ⟨hm, hs.stp.trans hst'⟩
            obtain ⟨r3, u3⟩ := q3 r2 w' u2
            exact hQ r3 a w' (htm.mono u3.2.ext) hd u3
        unfold bestE at hb
        unfold wpOpIn
        simp only [ho]
        rw [wantedA_eq ops hs.er o]
        cases hw : wantedA ops env o with
        | false =>
          rw [hw] at hb
          simp only [cond_false, putK_eq] at hb
          cases hb
          rw [if_neg (by simp)]
          exact ⟨fun _ _ => trivial, hst, go _ hmem _ r _ w (hR.next hlist) (by rw [put_defers]; exact hd) (loseE_put' (mem_ops ho) a _ htm) ⟨putA_rel hs.er o.dst (.undef r), hs.mr, hs.stp, hs.apart⟩ hst⟩
        | true =>
          rw [hw] at hb
          simp only [cond_true] at hb
          rw [if_pos rfl]
          split at hb
          case h_2 => cases hb
          rename_i v M2 hstep
          simp only [forceD_eq, forceM_eq, putK_eq] at hb
          cases hb
          refine step_sound hN hT hself hstep hs.er hs.mr hM0 hSt hI hgl ro (hnd.at ho) fun r' v' w' h2 h3 h4 h5 => ⟨h5.stay, ?_⟩
          exact go _ hmem _ r' _ w' (hR.next hlist) (by rw [put_defers]; exact hd) (loseE_put' (mem_ops ho) a v' htm) ⟨putA_rel (hs.er.mono h4.ext) o.dst h2, h3, hs.stp.trans h4, h5.apart⟩ h5.stay
end Ev
end Go.Proofs.Ytjinpngojdefiaa
/-! ## L -/
namespace Go.Proofs.Ytjinpngojdefiaa
open Go.RowKit
namespace Ev

/-! ### A region that draws its order. -/
/-- The blocks that stores and appends go to. -/
def targetA (env : Env) (o : Oper) : Option Nat := match o.op with
  | .store _ x _ => match ev env x with
    | some (.pointer (some a)) => some a.block
    | _ => none
  | .call c => (match c.callee with
    | .builtin .append => (match c.args.toList with
      | x :: _ => (match ev env x with
        | some (.slice (some a) _ _) => some a.block
        | _ => none)
      | [] => none)
    | _ => none)
  | _ => none
def storesTo (env : Env) : List Oper → List Nat
  | [] => []
  | o :: rest => match targetA env o with
    | some b => b :: storesTo env rest
    | none => storesTo env rest
def killAll (bl : List (Nat × List Value)) : List Nat → List (Nat × List Value)
  | [] => bl
  | b :: rest => killAll (kill bl b) rest
def onlyStores : List Oper → List Oper
  | [] => []
  | o :: r => match o.op with
    | .store .. => o :: onlyStores r
    | .call c => (match c.callee with
      | .builtin .append => o :: onlyStores r
      | _ => onlyStores r)
    | _ => onlyStores r
/-- What is simply yielded, all blocks as they are: for the addresses. -/
def dryE (P : Program) (ops : Array Oper) (St : List (Nat × List Value)) : Nat → List Ent → Env → Env
  | 0, _, env => env
  | n + 1, rem, env => match takeE P ops St env (cands ops rem rem) with
    | some (i, d, v) => forceD 4 v fun v => putK env d v fun env => dryE P ops St n (next i rem) env
    | none => env
theorem killAll_sub : ∀ (bs : List Nat) (bl : List (Nat × List Value)) (i : Nat) (cs : List Value), look (killAll bl bs) i = some cs → look bl i = some cs
  | [], _, _, _, h => h
  | b :: bs, bl, i, cs, h => by
    have h1 := killAll_sub bs (kill bl b) i cs h
    rw [look_kill] at h1
    split at h1
    · cases h1
    · exact h1
def onlyLoads : List Oper → List Oper
  | [] => []
  | o :: r => match o.op with
    | .load .. => o :: onlyLoads r
    | _ => onlyLoads r
def loadsFrom (env : Env) : List Oper → List Nat
  | [] => []
  | o :: rest => match o.op with
    | .load _ x => (match ev env x with
      | some (.pointer (some a)) => forceN a.block fun b => b :: loadsFrom env rest
      | _ => loadsFrom env rest)
    | _ => loadsFrom env rest
/-- The blocks that a region's loads may take as they are: those loaded from which nothing is stored or appended to. -/
def stayE (P : Program) (ops : Array Oper) (env : Env) (M : Mem) : List (Nat × List Value) := match onlyStores ops.toList with
  | [] => M.bl
  | ss => match dryE P ops M.bl ops.size (ents ops) env with
    | ⟨n, t, gs, ds, rd⟩ => killAll (sel (fun i => memN i (loadsFrom ⟨n, t, gs, ds, rd⟩ (onlyLoads ops.toList))) M.bl) (storesTo ⟨n, t, gs, ds, rd⟩ ss)
theorem stayE_sub {P : Program} {ops : Array Oper} {env : Env} {M : Mem} (i : Nat) (cs : List Value) (h : look (stayE P ops env M) i = some cs) : look M.bl i = some cs := by
  unfold stayE at h
  split at h
  · exact h
  · exact (look_sel_some (killAll_sub _ _ i cs h)).2
def isDefer (o : Oper) : Bool := match o.op with
  | .defer _ => true
  | _ => false
theorem not_defer {o : Oper} (h : isDefer o = false) : ∀ c, o.op ≠ .defer c := fun c e => by
  unfold isDefer at h
  rw [e] at h
  cases h
def Env.bareK {α : Type} (env : Env) (k : Env → α) : α := match env with
  | ⟨n, t, gs, _, rd⟩ => k ⟨n, t, gs, [], rd⟩
theorem Env.bareK_eq {α : Type} (env : Env) (k : Env → α) : env.bareK k = k { env with ds := [] } := rfl
def Env.backK {α : Type} (env e : Env) (k : Env → α) : α := match env with
  | ⟨_, _, gs, ds, rd⟩ => match e with
    | ⟨n, t, _, _, _⟩ => k ⟨n, t, gs, ds, rd⟩
theorem Env.backK_eq {α : Type} (env e : Env) (k : Env → α) : env.backK e k = k { e with ds := env.ds, gs := env.gs, rd := env.rd } := rfl
/-! ### Rounds. -/
def deferA (env : Env) (o : Oper) : Option ADf := match o.op with
  | .defer c => match c.callee with
    | .value fo => match ev env fo with
      | some (.func (.func f) first captured) => match evs env c.args.toList with
        | some xs => some (.call f (first.toList ++ xs ++ captured.toList))
        | none => none
      | _ => none
    | _ => none
  | _ => none
theorem defer_sound {P : Program} {env : Env} {o : Oper} {d : ADf} {r : Nat → Option (Nat × Nat)} {a : Act} (w : World) (h : deferA env o = some d) (he : ER r env a.tmps) {es : List Deferred} (hd : DR r env.ds es) :
    ∃ x, (execOp a.eval o).run P w = .ok (.defer x) w ∧ DR r (d :: env.ds) (x :: es) := by
  obtain ⟨dst, op, ty, pos, after, guard⟩ := o
  unfold deferA at h
  split at h
  case h_2 => cases h
  rename_i c hop
  simp only at hop
  subst hop
  obtain ⟨callee, args, argTypes⟩ := c
  simp only at h
  split at h
  case h_2 => cases h
  rename_i fo
  split at h
  case h_2 => cases h
  rename_i f first captured h0
  split at h
  case h_2 => cases h
  rename_i xs h1
  cases h
  obtain ⟨ys, vs, hv, e1, e2⟩ := (ev_sound he h0).of_func rfl
  have e3 := evs_sound he h1
  refine ⟨{ target := .fn (.func f) vs, args := ys ++ args.map a.eval }, by simp [execOp, resolve, Deferred.ofValue, hv], ⟨_, _, rfl, ?_⟩, hd⟩
  simp only [Array.toList_append, Array.toList_map]
  exact (e1.append e3).append e2
def yieldA (env : Env) (o : Oper) : Option (Nat × List Value) := match o.op with
  | .call c => match c.callee with
    | .value fo => match ev env fo with
      | some (.func (.yield i) _ _) => match evs env c.args.toList with
        | some xs => some (i, xs)
        | none => none
      | _ => none
    | _ => none
  | _ => none
theorem yieldA_sound {P : Program} {env : Env} {o : Oper} {i : Nat} {xs : List Value} {r : Nat → Option (Nat × Nat)} {a : Act} (h : yieldA env o = some (i, xs)) (he : ER r env a.tmps) :
    ∃ g ys, r i = some g ∧ LR r xs ys ∧ ∀ w, (execOp a.eval o).run P w = (Instr.yield g.1 ys.toArray).run P w := by
  obtain ⟨dst, op, ty, pos, after, guard⟩ := o
  unfold yieldA at h
  split at h
  case h_2 => cases h
  rename_i c hop
  simp only at hop
  subst hop
  obtain ⟨callee, args, argTypes⟩ := c
  simp only at h
  split at h
  case h_2 => cases h
  rename_i fo
  split at h
  case h_2 => cases h
  rename_i i' u1 u2 h0
  split at h
  case h_2 => cases h
  rename_i xs' h1
  cases h
  obtain ⟨g, hg, hv⟩ := (ev_sound he h0).of_yield
  have e3 := evs_sound he h1
  refine ⟨g, args.toList.map a.eval, hg, e3, fun w => ?_⟩
  have : (args.toList.map a.eval).toArray = args.map a.eval := by rw [← Array.toList_map]
  rw [this]
  simp [execOp, resolve, Deferred.ofValue, hv, invoke]
def setPs : List Tmp → List Value → Env → Env
  | t :: ps, x :: xs, env => setPs ps xs (env.set t x)
  | _, _, env => env
theorem setPs_keep : ∀ (ps : List Tmp) (xs : List Value) (env : Env), (setPs ps xs env).rd = env.rd ∧ (setPs ps xs env).ds = env.ds
  | [], _, _ => ⟨rfl, rfl⟩
  | _ :: _, [], _ => ⟨rfl, rfl⟩
  | t :: ps, x :: xs, env => by
    obtain ⟨h1, h2⟩ := setPs_keep ps xs (env.set t x)
    exact ⟨h1.trans (Env.set_rd ..), h2.trans (Env.set_ds ..)⟩
theorem setPs_rel {r : Nat → Option (Nat × Nat)} : ∀ {ps : List Tmp} {xs ys : List Value} {env : Env} {tmps : Array Value}, ER r env tmps → LR r xs ys → ER r (setPs ps xs env) ((ps.zip ys).foldl (fun tmps p => tmps.setIfInBounds p.1 p.2) tmps)
  | [], _, _, _, _, h, _ => h
  | _ :: _, [], [], _, _, h, _ => h
  | t :: ps, x :: xs, y :: ys, env, tmps, h, hl => by
    simp only [setPs, List.zip_cons_cons, List.foldl_cons]
    exact setPs_rel (h.set t hl.head) hl.tail
  | _ :: _, [], _ :: _, _, _, _, hl => absurd hl.1 (by simp)
  | _ :: _, _ :: _, [], _, _, _, hl => absurd hl.1 (by simp)

def setPsK {α : Type} : List Tmp → List Value → Env → (Env → α) → α
  | t :: ps, x :: xs, env, k => env.setK t x fun env => setPsK ps xs env k
  | _, _, env, k => k env
theorem setPsK_eq {α : Type} : ∀ (ps : List Tmp) (xs : List Value) (env : Env) (k : Env → α), setPsK ps xs env k = k (setPs ps xs env)
  | [], _, _, _ => rfl
  | _ :: _, [], _, _ => rfl
  | t :: ps, x :: xs, env, k => by simp only [setPsK, setPs, Env.setK_eq, setPsK_eq ps xs]
def updK {α β : Type} : List (Nat × β) → Nat → β → (List (Nat × β) → α) → α
  | [], _, _, k => k []
  | (j, y) :: rest, i, x, k => bif Nat.beq j i then k ((j, x) :: rest) else updK rest i x fun rest => k ((j, y) :: rest)
theorem updK_eq {α β : Type} : ∀ (l : List (Nat × β)) (i : Nat) (x : β) (k : List (Nat × β) → α), updK l i x k = k (upd l i x)
  | [], _, _, _ => rfl
  | (j, y) :: rest, i, x, k => by
    simp only [updK, upd]
    cases Nat.beq j i with
    | true => rfl
    | false => simp only [cond_false, updK_eq rest]
/-- The memory with one of its objects changed. -/
def Mem.putK {α : Type} (M : Mem) (i : Nat) (o : AOb) (k : Mem → α) : α := match M with
  | ⟨next, lo, bl, gl, ob⟩ => updK ob i o fun ob => k ⟨next, lo, bl, gl, ob⟩
theorem Mem.putK_eq {α : Type} (M : Mem) (i : Nat) (o : AOb) (k : Mem → α) : M.putK i o k = k { M with ob := upd M.ob i o } := by
  obtain ⟨next, lo, bl, gl, ob⟩ := M
  simp only [Mem.putK, updK_eq]
def Env.freshK {α : Type} (env : Env) (k : Env → α) : α := match env with
  | ⟨n, t, gs, _, _⟩ => k ⟨n, t, gs, [], true⟩
theorem Env.freshK_eq {α : Type} (env : Env) (k : Env → α) : env.freshK k = k { env with ds := [], rd := true } := rfl
def Env.markK {α : Type} (env : Env) (d : ADf) (k : Env → α) : α := match env with
  | ⟨n, t, gs, ds, rd⟩ => k ⟨n, t, gs, d :: ds, rd⟩
theorem Env.markK_eq {α : Type} (env : Env) (d : ADf) (k : Env → α) : env.markK d k = k { env with ds := d :: env.ds } := rfl
def Mem.openK {α : Type} (M : Mem) (o : AOb) (k : Nat → Nat → Mem → α) : α := match M with
  | ⟨next, lo, bl, gl, ob⟩ => forceN (64 * next) fun d => forceN (64 * (next + 1)) fun l => forceN (next + 1 + 1) fun n => k d l ⟨n, lo, bl, gl, (l, o) :: (d, .defd) :: ob⟩
theorem Mem.openK_eq {α : Type} (M : Mem) (o : AOb) (k : Nat → Nat → Mem → α) : M.openK o k = k (64 * M.next) (64 * (M.next + 1)) { M with next := M.next + 1 + 1, ob := (64 * (M.next + 1), o) :: (64 * M.next, .defd) :: M.ob } := by
  obtain ⟨next, lo, bl, gl, ob⟩ := M
  simp only [Mem.openK, forceN_eq]
def killK {α β : Type} : List (Nat × β) → Nat → (List (Nat × β) → α) → α
  | [], _, k => k []
  | (j, y) :: rest, i, k => bif Nat.beq j i then killK rest i k else killK rest i fun rest => k ((j, y) :: rest)
theorem killK_eq {α β : Type} : ∀ (l : List (Nat × β)) (i : Nat) (k : List (Nat × β) → α), killK l i k = k (kill l i)
  | [], _, _ => rfl
  | (j, y) :: rest, i, k => by
    simp only [killK, kill]
    cases Nat.beq j i with
    | true => simp only [cond_true, killK_eq rest]
    | false => simp only [cond_false, killK_eq rest]
def Mem.killK {α : Type} (M : Mem) (i : Nat) (k : Mem → α) : α := match M with
  | ⟨next, lo, bl, gl, ob⟩ => Ev.killK ob i fun ob => k ⟨next, lo, bl, gl, ob⟩
theorem Mem.killK_eq {α : Type} (M : Mem) (i : Nat) (k : Mem → α) : M.killK i k = k { M with ob := kill M.ob i } := by
  obtain ⟨next, lo, bl, gl, ob⟩ := M
  simp only [Mem.killK, Ev.killK_eq]

def roundE (self : Self) (M : Mem) (i : Nat) (xs : List Value) : Option CR := match look M.ob i with
  | some (.loop .ready none env ps as bd) => bif Nat.beq xs.length ps.length then env.freshK fun env => forceVs (forceD 4) xs fun xs => setPsK ps xs env fun env => match self as env M with
    | some (.normal, env1, M1) => match look M1.ob i with
      | some (.loop .ready none env' ps' as' bd') => M1.putK i (.loop .busy none env' ps' as' bd') fun M1 => match self bd env1 M1 with
        | some (x, _, M2) => match look M2.ob i with
          | some (.loop _ _ env'' ps'' as'' bd'') => match x with
            | .normal => M2.putK i (.loop .ready none env'' ps'' as'' bd'') fun M2 => some (.ret (.bool true) M2)
            | .ret => M2.putK i (.loop .done (some .ret) env'' ps'' as'' bd'') fun M2 => some (.ret (.bool false) M2)
            | .exit id => M2.putK i (.loop .done (some (.exit id)) env'' ps'' as'' bd'') fun M2 => some (.ret (.bool false) M2)
            | _ => none
          | _ => none
        | none => none
      | _ => none
    | _ => none
    else none
  | _ => none
theorem put_sound {r : Nat → Option (Nat × Nat)} {M : Mem} {w : World} (hM : MR r M w) {i : Nat} {o p : AOb} {g : Nat × Nat} (h : Obj) (hl : look M.ob i = some o) (hi : r i = some g) (hp : OB r p h) :
    MR r { M with ob := upd M.ob i p } (w.putObj g.1 h) ∧ Stp r M w r { M with ob := upd M.ob i p } (w.putObj g.1 h) :=
  setO_sound hM hl hi hp (World.putObj_heap_same (hM.ltO hl hi)) (fun _ hk => World.putObj_heap_other hk) World.putObj_size rfl rfl rfl
theorem round_sound {P : Program} {G : List (Nat × List Value)} {self : Self} (hself : SelfOk P G self) {env : Env} {M : Mem} {o : Oper} {i : Nat} {xs : List Value} {c : CR} {r : Nat → Option (Nat × Nat)} {a : Act} {w : World} (ro : Option Nat)
    (hnd : ∀ c, o.op ≠ .defer c) (hy : yieldA env o = some (i, xs)) (h : roundE self M i xs = some c) (he : ER r env a.tmps) (hM : MR r M w) (hG : M.gl = G) {K : Act → World → Prop} {Q : Exit → Act → World → Prop}
    (hK : ∀ v M' r' v' w', c = .ret v M' → VR r' v v' → MR r' M' w' → Stp r M w r' M' w' → K (a.put o.dst v') w') (hP : ∀ ch M' r' w', c = .pan ch M' → MR r' M' w' → Stp r M w r' M' w' → Q (.panic ch) a w') : o.wpIn (FR ro) 0 P a w K Q := by
  obtain ⟨g, ys, hg, hl, hrun⟩ := yieldA_sound (P := P) hy he
  unfold roundE at h
  simp only [Env.freshK_eq, forceVs_eq (forceD_eq 4), setPsK_eq, Mem.putK_eq] at h
  split at h
  case h_2 => cases h
  rename_i env0 ps as bd hlk
  cases hlen : Nat.beq xs.length ps.length with
  | false => rw [hlen] at h; cases h
  | true =>
    rw [hlen] at h
    simp only [cond_true] at h
    obtain ⟨g', ob, k1, k2, k3⟩ := hM.obj _ _ hlk
    rw [hg] at k1; cases k1
    obtain ⟨fn, tmps, dl, rfl, he0⟩ := k3
    split at h
    case h_2 => cases h
    rename_i env1 M1 hs1
    split at h
    case h_2 => cases h
    rename_i env' ps' as' bd' hlk1
    split at h
    case h_2 => cases h
    rename_i x env2 M2 hs2
    split at h
    case h_2 => cases h
    rename_i st pd env'' ps'' as'' bd'' hlk2
    refine ⟨fun _ _ => trivial, ?_⟩
    have hsz : ys.toArray.size = ps.toArray.size := by
      have := Nat.eq_of_beq_eq_true hlen
      have := hl.1
      simp; omega
    rw [Oper.semAt_eq _ _ _ hnd, hrun, run_yield k2 hsz]
    refine ⟨fun hn => (by cases hn), roundIn_of_wpIn (F := FR ro) trivial ?_⟩
    -- the assignment
    obtain ⟨b1, _, b3⟩ := hself _ _ _ _ _ _ hs1
    have hk0 := setPs_keep ps xs { env0 with ds := [], rd := true }
    have her : ER r (setPs ps xs { env0 with ds := [], rd := true }) ((ps.toArray.zip ys.toArray).foldl (fun tmps (t, a) => tmps.setIfInBounds t a) tmps) := by
      have := setPs_rel (ps := ps) (xs := xs) (ys := ys) (env := { env0 with ds := [], rd := true }) (tmps := tmps) ⟨he0.1, he0.2, he0.3⟩ hl
      simpa using this
    refine wpIn_mono (b3 (some g.1) r { tmps := (ps.toArray.zip ys.toArray).foldl (fun tmps (t, a) => tmps.setIfInBounds t a) tmps, defers := [] } w (fun _ => hk0.1) her (by rw [hk0.2]; trivial) hM hG) ?_
    rintro e1 a1 w1 ⟨rfl, r1, q1, q2, q3, q4⟩
    obtain ⟨g1, ob1, m1, m2, m3⟩ := q3.obj _ _ hlk1
    rw [q4.ext _ _ hg] at m1; cases m1
    obtain ⟨fn1, tmps1, dl1, rfl, he1⟩ := m3
    obtain ⟨n1, n2⟩ := put_sound q3 (.loop { state := .busy, pending := none, fn := fn1, tmps := tmps1, params := ps'.toArray, assign := as', body := bd', defers := dl1 }) hlk1 (q4.ext _ _ hg) (p := .loop .busy none env' ps' as' bd') ⟨fn1, tmps1, dl1, rfl, he1⟩
    refine ⟨_, run_beginRound m2 rfl, ?_⟩
    -- the body
    obtain ⟨c1, _, c3⟩ := hself _ _ _ _ _ _ hs2
    refine wpIn_mono (c3 (some g.1) r1 a1 _ (fun _ => b1.trans hk0.1) q1 q2 n1 (q4.gl.trans hG)) ?_
    rintro e2 a2 w2 ⟨rfl, r2, p1, p2, p3, p4⟩
    have hgg : r2 i = some g := p4.ext _ _ (q4.ext _ _ hg)
    obtain ⟨g2, ob2, t1, t2, t3⟩ := p3.obj _ _ hlk2
    rw [hgg] at t1; cases t1
    obtain ⟨fn2, tmps2, dl2, rfl, he2⟩ := t3
    have fin : ∀ (jump : Option Code) (b : Bool), jump.isNone = b → c = .ret (.bool b) { M2 with ob := upd M2.ob i (.loop (if b then .ready else .done) jump env'' ps'' as'' bd'') } →
        ∃ v2 w3, (Instr.endRound g.1 jump).run P w2 = .ok v2 w3 ∧ K (a.put o.dst v2) w3 := fun jump b hj hv => by
      have hr := run_endRound (P := P) jump t2
      rw [hj] at hr
      obtain ⟨s1, s2⟩ := put_sound p3 (.loop { state := if b then .ready else .done, pending := jump, fn := fn2, tmps := tmps2, params := ps''.toArray, assign := as'', body := bd'', defers := dl2 }) hlk2 hgg (p := .loop (if b then .ready else .done) jump env'' ps'' as'' bd'') ⟨fn2, tmps2, dl2, rfl, he2⟩
      exact ⟨_, _, hr, hK _ _ r2 _ _ hv (.of_bool r2 b) s1 ((q4.trans n2).trans (p4.trans s2))⟩
    cases e2 with
    | normal => cases h; exact fin none true rfl rfl
    | ret => cases h; exact fin (some .ret) false rfl rfl
    | exit id => cases h; exact fin (some (.exit id)) false rfl rfl
    | _ => cases h

/-- Not in a round. -/
def out (env : Env) (q : Rs) : Rs := bif env.rd then none else q
theorem out_some {env : Env} {q : Rs} {x : Exit × Env × Mem} (h : out env q = some x) : env.rd = false ∧ q = some x := by
  unfold out at h
  generalize env.rd = b at h
  cases b with
  | true => cases h
  | false => exact ⟨rfl, h⟩

/-! ### A region in the order of the text. -/
def opsE (P : Program) (T : Tab) (self : Self) (ops : Array Oper) : List Oper → Env → Mem → Rs
  | [], env, M => some (.normal, env, M)
  | o :: rest, env, M => bif wantedA ops env o then (bif isDefer o then out env (match deferA env o with
        | some d => opsE P T self ops rest (putA { env with ds := d :: env.ds } o.dst Go.undef) M
        | none => none)
      else match yieldA env o with
        | some (i, xs) => match roundE self M i xs with
          | some (.ret v M') => forceM M' fun M' => putK env o.dst v fun env' => opsE P T self ops rest env' M'
          | some (.pan ch M') => some (.panic ch, env, M')
          | none => none
        | none => match opE P T self env M o with
          | some (.ret v M') => forceD 4 v fun v => forceM M' fun M' => putK env o.dst v fun env' => opsE P T self ops rest env' M'
          | some (.pan ch M') => some (.panic ch, env, M')
          | none => none)
    else putK env o.dst Go.undef fun env' => opsE P T self ops rest env' M
theorem opsE_sound {P : Program} (hN : noRoutines P) {G : List (Nat × List Value)} {T : Tab} (hT : TOk P G T) {self : Self} (hself : SelfOk P G self) {ops : Array Oper} : ∀ {l : List Oper} {env env' : Env} {M M' : Mem} {e : Exit}, opsE P T self ops l env M = some (e, env', M') →
    env'.rd = env.rd ∧ env'.gs = env.gs ∧ ∀ (ro : Option Nat) (r : Nat → Option (Nat × Nat)) (a : Act) (w : World) (Q : Exit → Act → World → Prop), (ro.isSome = true → env.rd = true) → ER r env a.tmps → DR r env.ds a.defers → MR r M w → M.gl = G →
      (∀ r' a' w', ER r' env' a'.tmps → DR r' env'.ds a'.defers → MR r' M' w' → Stp r M w r' M' w' → Q e a' w') → wpListIn (FR ro) 0 P ops Q l a w
  | [], env, env', M, M', e, h => by
    cases h
    exact ⟨rfl, rfl, fun ro r a w Q _ he hd hM hG hQ => hQ r a w he hd hM (.refl _ _ _)⟩
  | o :: l, env, env', M, M', e, h => by
    simp only [opsE] at h
    cases hw : wantedA ops env o with
    | false =>
      rw [hw] at h
      simp only [cond_false, putK_eq] at h
      obtain ⟨h1, h2, h3⟩ := opsE_sound hN hT hself h
      refine ⟨by rw [h1, putA_rd], by rw [h2, putA_gs], fun ro r a w Q hro he hd hM hG hQ => ?_⟩
      unfold wpListIn
      rw [wantedA_eq ops he o, hw, if_neg (by simp)]
      exact ⟨fun _ _ => trivial, h3 ro r _ w Q (by rw [putA_rd]; exact hro) (putA_rel he o.dst (.undef r)) (by rw [put_defers, putA_ds]; exact hd) hM hG hQ⟩
    | true =>
      rw [hw] at h
      simp only [cond_true] at h
      cases hdf : isDefer o with
      | true =>
        rw [hdf] at h
        simp only [cond_true] at h
        obtain ⟨hrd, h⟩ := out_some h
        split at h
        case h_2 => cases h
        rename_i d hda
        obtain ⟨h1, h2, h3⟩ := opsE_sound hN hT hself h
        refine ⟨by rw [h1, putA_rd], by rw [h2, putA_gs], fun ro r a w Q hro he hd hM hG hQ => ?_⟩
        have hnone : ro = none := by
          cases ro with
          | none => rfl
          | some l => have := hro rfl; rw [hrd] at this; cases this
        subst hnone
        unfold wpListIn
        rw [wantedA_eq ops he o, hw, if_pos rfl]
        refine ⟨fun _ _ => trivial, ?_⟩
        obtain ⟨x, k1, k2⟩ := defer_sound (P := P) w hda he hd
        have hsem : (o.semAt (FR none).round a.eval).run P w = .ok (.defer x) w := k1
        rw [hsem]
        exact h3 none r ({ a with defers := x :: a.defers }.put o.dst Go.undef) w Q (fun hn => by cases hn) (putA_rel (a := { a with defers := x :: a.defers }) (env := { env with ds := d :: env.ds }) ⟨he.1, he.2, he.3⟩ o.dst (.undef r)) (by rw [put_defers, putA_ds]; exact k2) hM hG hQ
      | false =>
        rw [hdf] at h
        simp only [cond_false] at h
        cases hy : yieldA env o with
        | some q =>
          obtain ⟨i, xs⟩ := q
          rw [hy] at h
          simp only at h
          cases hr : roundE self M i xs with
          | none => rw [hr] at h; cases h
          | some c =>
           cases c with
           | pan ch M2 =>
            rw [hr] at h
            cases h
            refine ⟨rfl, rfl, fun ro r a w Q hro he hd hM hG hQ => ?_⟩
            unfold wpListIn
            rw [wantedA_eq ops he o, hw, if_pos rfl]
            refine round_sound hself ro (not_defer hdf) hy hr he hM hG (fun v M' r' v' w' e => by cases e) fun ch M' r' w' e hm hs => ?_
            cases e
            exact hQ r' a w' (he.mono hs.ext) (hd.mono hs.ext) hm hs
           | ret v M2 =>
            rw [hr] at h
            simp only [forceM_eq, putK_eq] at h
            obtain ⟨h1, h2, h3⟩ := opsE_sound hN hT hself h
            refine ⟨by rw [h1, putA_rd], by rw [h2, putA_gs], fun ro r a w Q hro he hd hM hG hQ => ?_⟩
            unfold wpListIn
            rw [wantedA_eq ops he o, hw, if_pos rfl]
            refine round_sound hself ro (not_defer hdf) hy hr he hM hG (fun v M' r' v' w' e hv hm hs => ?_) fun ch M' r' w' e => by cases e
            cases e
            exact h3 ro r' _ w' Q (by rw [putA_rd]; exact hro) (putA_rel (he.mono hs.ext) o.dst hv) (by rw [put_defers, putA_ds]; exact hd.mono hs.ext) hm (hs.gl.trans hG) fun r'' a'' w'' k1 k2 k3 k4 => hQ r'' a'' w'' k1 k2 k3 (hs.trans k4)
        | none =>
          rw [hy] at h
          simp only at h
          cases ho : opE P T self env M o with
          | none => rw [ho] at h; cases h
          | some c =>
            rw [ho] at h
            cases c with
            | ret v M2 =>
              simp only [forceD_eq, forceM_eq, putK_eq] at h
              obtain ⟨h1, h2, h3⟩ := opsE_sound hN hT hself h
              refine ⟨by rw [h1, putA_rd], by rw [h2, putA_gs], fun ro r a w Q hro he hd hM hG hQ => ?_⟩
              unfold wpListIn
              rw [wantedA_eq ops he o, hw, if_pos rfl]
              refine opE_soundIn hN hT hself ro ho (not_defer hdf) he hM hG (fun v M' r' v' w' e hv hm hs => ?_) fun ch M' r' w' e => by cases e
              cases e
              exact h3 ro r' _ w' Q (by rw [putA_rd]; exact hro) (putA_rel (he.mono hs.ext) o.dst hv) (by rw [put_defers, putA_ds]; exact hd.mono hs.ext) hm (hs.gl.trans hG) fun r'' a'' w'' k1 k2 k3 k4 => hQ r'' a'' w'' k1 k2 k3 (hs.trans k4)
            | pan ch M2 =>
              cases h
              refine ⟨rfl, rfl, fun ro r a w Q hro he hd hM hG hQ => ?_⟩
              unfold wpListIn
              rw [wantedA_eq ops he o, hw, if_pos rfl]
              refine opE_soundIn hN hT hself ro ho (not_defer hdf) he hM hG (fun v M' r' v' w' e => by cases e) fun ch M' r' w' e hm hs => ?_
              cases e
              exact hQ r' a w' (he.mono hs.ext) (hd.mono hs.ext) hm hs

/-! ### Where one operation must come: the rest of a region, in the only order that there is. -/
/-- 'go': whether it may go on behind an operation that may have written anywhere. -/
def tailE (P : Program) (T : Tab) (self : Self) (ops : Array Oper) (go : Bool) : Nat → List Ent → Env → Mem → Rs
  | 0, rem, env, M => match readyL rem with
    | [] => some (.normal, env, M)
    | _ => none
  | n + 1, rem, env, M => match readyL rem with
    | [] => some (.normal, env, M)
    | [(i, o)] => bif wantedA ops env o then match yieldA env o with
        | some (l, xs) => (match roundE self M l xs with
          | some (.ret v M') => bif go then forceM M' fun M' => putK env o.dst v fun env' => tailE P T self ops go n (next i rem) env' M' else none
          | some (.pan ch M') => some (.panic ch, loseE ops.toList env, M')
          | none => none)
        | none => (match opE P T self env M o with
          | some (.ret v M') => bif go then forceD 4 v fun v => forceM M' fun M' => putK env o.dst v fun env' => tailE P T self ops go n (next i rem) env' M' else none
          | some (.pan ch M') => some (.panic ch, loseE ops.toList env, M')
          | none => none)
      else putK env o.dst Go.undef fun env' => tailE P T self ops go n (next i rem) env' M
    | _ => none
theorem tail_sound {P : Program} (hN : noRoutines P) {G : List (Nat × List Value)} {T : Tab} (hT : TOk P G T) {self : Self} (hself : SelfOk P G self) {ops : Array Oper} (hnd : NoDef ops) {go : Bool} (ro : Option Nat) {S : World → Prop} (hgo : go = true → ∀ w, S w) {Q : Exit → Act → World → Prop} :
    ∀ (n : Nat) {rem : List Ent} {env env' : Env} {M M' : Mem} {e : Exit}, tailE P T self ops go n rem env M = some (e, env', M') →
    ∀ (listed : Array Bool) (r : Nat → Option (Nat × Nat)) (a : Act) (w : World), RemOk ops listed rem → ER r env a.tmps → MR r M w → M.gl = G → S w →
      (∀ r' a' w', EX e r' env' a'.tmps → a'.defers = a.defers → MR r' M' w' → Stp r M w r' M' w' → Q e a' w') → anyS P ro ops Q S n listed a w := by
  intro n
  induction n with
  | zero =>
    intro rem env env' M M' e h listed r a w hR he hM hG hS hQ
    simp only [tailE] at h
    split at h
    case h_2 => cases h
    rename_i hr
    cases h
    exact anyS_end (hR.done hr) (hQ r a w (EX.of he) rfl hM (.refl _ _ _)) 0
  | succ n ih =>
    intro rem env env' M M' e h listed r a w hR he hM hG hS hQ
    simp only [tailE] at h
    split at h
    case h_3 => cases h
    · rename_i hr
      cases h
      exact anyS_end (hR.done hr) (hQ r a w (EX.of he) rfl hM (.refl _ _ _)) _
    · rename_i i o hr
      have hio : (i, o) ∈ readyL rem := by rw [hr]; exact List.mem_singleton.2 rfl
      obtain ⟨ho, hlist, _⟩ := hR.mem _ (mem_readyL.1 hio)
      simp only at ho hlist
      refine ⟨fun e => ?_, fun j hj => ?_⟩
      · have : i ∈ Region.ready .any ops listed := hR.ready.2 ⟨o, hio⟩
        rw [e] at this; cases this
      obtain ⟨o', hj'⟩ := hR.ready.1 hj
      rw [hr] at hj'
      cases List.mem_singleton.1 hj'
      unfold wpOpIn
      simp only [ho]
      rw [wantedA_eq ops he o]
      have on : ∀ (v : Value) (M2 : Mem), (bif go then tailE P T self ops go n (next i rem) (putA env o.dst v) M2 else none) = some (e, env', M') → ∀ r' v' w', VR r' v v' → MR r' M2 w' → Stp r M w r' M2 w' →
          S w' ∧ anyS P ro ops Q S n (listed.setIfInBounds i true) (a.put o.dst v') w' := fun v M2 hh r' v' w' hv hm hs => by
        cases go with
        | false => cases hh
        | true =>
          simp only [cond_true] at hh
          refine ⟨hgo rfl w', ih hh _ r' _ w' (hR.next hlist) (putA_rel (he.mono hs.ext) o.dst hv) hm (hs.gl.trans hG) (hgo rfl w') fun r2 a2 w2 k1 k2 k3 k4 => ?_⟩
          exact hQ r2 a2 w2 k1 (by rw [k2, put_defers]) k3 (hs.trans k4)
      cases hw : wantedA ops env o with
      | false =>
        rw [hw] at h
        simp only [cond_false, putK_eq] at h
        rw [if_neg (by simp)]
        refine ⟨fun _ _ => trivial, hS, ih h _ r _ w (hR.next hlist) (putA_rel he o.dst (.undef r)) hM hG hS fun r2 a2 w2 k1 k2 k3 k4 => ?_⟩
        exact hQ r2 a2 w2 k1 (by rw [k2, put_defers]) k3 k4
      | true =>
        rw [hw] at h
        simp only [cond_true, forceD_eq, forceM_eq, putK_eq] at h
        rw [if_pos rfl]
        cases hy : yieldA env o with
        | some q =>
          obtain ⟨l, xs⟩ := q
          rw [hy] at h
          simp only at h
          cases hr2 : roundE self M l xs with
          | none => rw [hr2] at h; cases h
          | some c =>
            rw [hr2] at h
            refine round_sound hself ro (hnd.at ho) hy hr2 he hM hG (fun v M2 r' v' w' e' hv hm hs => ?_) fun ch M2 r' w' e' hm hs => ?_
            · subst e'
              exact on v M2 h r' v' w' hv hm hs
            · subst e'
              cases h
              exact hQ r' a w' (loseE_rel _ (he.mono hs.ext).weak) rfl hm hs
        | none =>
          rw [hy] at h
          simp only at h
          cases hr2 : opE P T self env M o with
          | none => rw [hr2] at h; cases h
          | some c =>
            rw [hr2] at h
            refine opE_soundIn hN hT hself ro hr2 (hnd.at ho) he hM hG (fun v M2 r' v' w' e' hv hm hs => ?_) fun ch M2 r' w' e' hm hs => ?_
            · subst e'
              exact on v M2 h r' v' w' hv hm hs
            · subst e'
              cases h
              exact hQ r' a w' (loseE_rel _ (he.mono hs.ext).weak) rfl hm hs
theorem tail_env {P : Program} {T : Tab} {self : Self} {ops : Array Oper} {go : Bool} {c : List PanicEntry} : ∀ (n : Nat) {rem : List Ent} {env env' : Env} {M M' : Mem}, tailE P T self ops go n rem env M = some (.panic c, env', M') → ∃ env0, env' = loseE ops.toList env0
  | 0, rem, env, env', M, M', h => by
    simp only [tailE] at h
    split at h <;> cases h
  | n + 1, rem, env, env', M, M', h => by
    simp only [tailE, forceD_eq, forceM_eq, putK_eq] at h
    split at h
    case h_3 => cases h
    · cases h
    · rename_i i o _
      generalize wantedA ops env o = b at h
      cases b with
      | false => exact tail_env n h
      | true =>
        simp only [cond_true] at h
        split at h
        · split at h
          case h_3 => cases h
          · cases go with
            | false => cases h
            | true => exact tail_env n h
          · cases h; exact ⟨env, rfl⟩
        · split at h
          case h_3 => cases h
          · cases go with
            | false => cases h
            | true => exact tail_env n h
          · cases h; exact ⟨env, rfl⟩

/-! ### A region that draws its order. -/
/-- What the region's operands lead to. -/
def addrO (env : Env) : List Operand → List Nat → List Nat
  | [], acc => acc
  | x :: r, acc => match ev env x with
    | some v => addrO env r (addrV 4 v acc)
    | none => addrO env r acc
def addrOps (env : Env) : List Oper → List Nat → List Nat
  | [], acc => acc
  | o :: r, acc => addrOps env r (addrO env o.op.operands.toList acc)
/-- From where the levels end: to the end. -/
def endE (P : Program) (T : Tab) (self : Self) (ops : Array Oper) (go : Bool) (p : Nat → Bool) (env : Env) (M : Mem) : Option Lv → Rs
  | some (.fin e m) => env.backK e fun e => M.wholeK p m fun m => some (.normal, e, m)
  | some (.stop n rem e m) => M.wholeK p m fun m => (match tailE P T self ops go n rem e m with
      | some (x, e, m) => env.backK e fun e => some (x, e, m)
      | none => none)
  | some (.exit ch m) => M.wholeK p m fun m => env.backK (loseE ops.toList env) fun e => some (.panic ch, e, m)
  | none => none
def drawE (P : Program) (T : Tab) (self : Self) (ops : Array Oper) (env : Env) (M : Mem) : Rs :=
  bif (Region.noSelect ops && ops.toList.all (fun o => !isDefer o)) && Nat.ble M.lo (64 * M.next) then
    env.bareK fun env0 => forceN (64 * M.next) fun lim => forceL (reachW M.bl M.ob 5000 (addrOps env0 ops.toList []) []) fun R =>
    match (M.partK (frameP R M.gl) fun M0 => endE P T self ops false (frameP R M.gl) env M (levE P T self ops (stayE P ops env0 M0) lim M0.lo M0.gl ops.size [(ents ops, env0, M0)] none)) with
      | some x => some x
      | none => match (M.partK (frameP R M.gl) fun M0 => endE P T self ops true (frameP R M.gl) env M (levE P T self ops [] lim M0.lo M0.gl ops.size [(ents ops, env0, M0)] none)) with
        | some x => some x
        | none => match (M.partK (fun _ => true) fun M0 => endE P T self ops false (fun _ => true) env M (levE P T self ops (stayE P ops env0 M0) lim M0.lo M0.gl ops.size [(ents ops, env0, M0)] none)) with
          | some x => some x
          | none => M.partK (fun _ => true) fun M0 => endE P T self ops true (fun _ => true) env M (levE P T self ops [] lim M0.lo M0.gl ops.size [(ents ops, env0, M0)] none)
  else none
theorem draw_sound {P : Program} (hN : noRoutines P) {G : List (Nat × List Value)} {T : Tab} (hT : TOk P G T) (hm : P.follows .mixedOrders = true) {self : Self} (hself : SelfOk P G self) {id : Nat} {ops : Array Oper} {env env' : Env} {M M' : Mem} {x : Exit} (h : drawE P T self ops env M = some (x, env', M')) :
    SoundAt P G (.region id ops true) env M x env' M' := by
  unfold drawE at h
  generalize hc : ((Region.noSelect ops && ops.toList.all fun o => !isDefer o) && Nat.ble M.lo (64 * M.next)) = c at h
  cases c with
  | false => cases h
  | true =>
    simp only [Bool.and_eq_true, List.all_eq_true] at hc
    simp only [cond_true, Mem.partK_eq, Env.bareK_eq, forceN_eq, forceL_eq] at h
    have hlo := Nat.le_of_ble_eq_true hc.2
    have hnd : NoDef ops := fun o ho => not_defer (by simpa using hc.1.2 o ho)
    have go : ∀ (p : Nat → Bool) (St : List (Nat × List Value)) (b : Bool), (∀ i cs, look M.gl i = some cs → p i = true) → (b = true → St = []) → (∀ i cs, look St i = some cs → look (sel p M.bl) i = some cs) →
        endE P T self ops b p env M (levE P T self ops St (64 * M.next) M.lo M.gl ops.size [(ents ops, { env with ds := [] }, { M with bl := sel p M.bl, ob := mapsOf p M.ob })] none) = some (x, env', M') → SoundAt P G (.region id ops true) env M x env' M' := fun p St b hp hb hSt h => by
      -- what the ends say
      have hend : ∃ L, levE P T self ops St (64 * M.next) M.lo M.gl ops.size [(ents ops, { env with ds := [] }, { M with bl := sel p M.bl, ob := mapsOf p M.ob })] none = some L ∧ endE P T self ops b p env M (some L) = some (x, env', M') := by
        cases hl : levE P T self ops St (64 * M.next) M.lo M.gl ops.size [(ents ops, { env with ds := [] }, { M with bl := sel p M.bl, ob := mapsOf p M.ob })] none with
        | none => rw [hl] at h; cases h
        | some L => rw [hl] at h; exact ⟨L, rfl, h⟩
      obtain ⟨L, hL, hE⟩ := hend
      have hkeep : env'.rd = env.rd ∧ env'.gs = env.gs ∧ env'.ds = env.ds := by
        cases L with
        | exit ch m =>
          simp only [endE, Env.backK_eq, Mem.wholeK_eq] at hE
          cases hE; exact ⟨rfl, rfl, rfl⟩
        | fin e m =>
          simp only [endE, Env.backK_eq, Mem.wholeK_eq] at hE
          cases hE; exact ⟨rfl, rfl, rfl⟩
        | stop n rem e m =>
          simp only [endE, Env.backK_eq, Mem.wholeK_eq] at hE
          split at hE
          case h_2 => cases hE
          cases hE; exact ⟨rfl, rfl, rfl⟩
      refine ⟨hkeep.1, hkeep.2.1, fun ro r a w _ he hd hM hG => wpIn_region_any hm (anyS_in (S := Stay St r w.drew) ops.size ?_)⟩
      have hMd : MR r M w.drew := hM.of_heap rfl
      have hMd0 : MR r { M with bl := sel p M.bl, ob := mapsOf p M.ob } w.drew := part_rel hMd hp
      have he0 : ER r { env with ds := [] } a.tmps := ⟨he.1, he.2, he.3⟩
      refine lev_sound hN hT hself hc.1.1 hnd ro (M0 := { M with bl := sel p M.bl, ob := mapsOf p M.ob }) hMd0 hG hSt (fun i oi v hi c a w hq => ?_) (D := a.defers) (env0 := env) (L := L) ?_ ops.size hL (fun x hx => ?_) _ (List.mem_singleton.2 rfl) _ r a w.drew (RemOk.start ops) rfl (loseE_rel _ he.weak) ⟨he0, hMd0, .refl _ _ _, fun i cs g hl hi hn j ds k hj hk e => ?_⟩ fun _ _ _ _ _ => rfl
      · -- a panic says nothing of what was taken
        obtain ⟨rfl, r', q1, q2, q3, q4⟩ := hq
        refine ⟨rfl, r', ?_, by rw [put_defers] at q2; exact q2, q3, q4⟩
        have hmem : oi ∈ ops.toList := by rw [← Array.getElem?_toList] at hi; exact List.mem_of_getElem? hi
        have he' : ∃ env0, env' = { loseE ops.toList env0 with ds := env.ds, gs := env.gs, rd := env.rd } := by
          cases L with
          | exit ch m =>
            simp only [endE, Env.backK_eq, Mem.wholeK_eq] at hE
            cases hE
            exact ⟨env, rfl⟩
          | fin e m =>
            simp only [endE, Env.backK_eq, Mem.wholeK_eq] at hE
            cases hE
          | stop n rem e m =>
            simp only [endE, Env.backK_eq, Mem.wholeK_eq] at hE
            split at hE
            case h_2 => cases hE
            rename_i hT
            cases hE
            obtain ⟨env0, rfl⟩ := tail_env _ hT
            exact ⟨env0, rfl⟩
        obtain ⟨env0, rfl⟩ := he'
        have q1' : EW r' { loseE ops.toList env0 with ds := env.ds, gs := env.gs, rd := env.rd } (a.put oi.dst v).tmps := q1
        have hg0 : ∀ g ∈ env.gs, ∃ s, r' (64 * g) = some (g, s) := q1'.3
        -- the names of the variables are the same
        have e1 : EW r' (loseE ops.toList { env0 with gs := env.gs }) (a.put oi.dst v).tmps := by
          have hgt : ∀ (l : List Oper) (e1 e2 : Env), e1.n = e2.n → (∀ i, e1.get i = e2.get i) → (loseE l e1).n = (loseE l e2).n ∧ ∀ i, (loseE l e1).get i = (loseE l e2).get i := by
            intro l
            induction l with
            | nil => exact fun e1 e2 h1 h2 => ⟨h1, h2⟩
            | cons o l ih =>
              intro e1 e2 h1 h2
              unfold loseE
              cases o.dst with
              | none => exact ih e1 e2 h1 h2
              | some d => exact ih _ _ (by rw [Env.lose_n, Env.lose_n, h1]) fun i => by rw [Env.lose_get, Env.lose_get, h1, h2]
          obtain ⟨k1, k2⟩ := hgt ops.toList { env0 with gs := env.gs } env0 rfl (fun _ => rfl)
          refine ⟨by rw [k1]; exact q1'.1, fun i => ?_, by rw [(loseE_keep _ _).2.1]; exact hg0⟩
          have := q1'.2 i
          rw [k2]
          exact this
        have e2 := loseE_put hmem a v e1
        have hgt : ∀ (l : List Oper) (e1 e2 : Env), e1.n = e2.n → (∀ i, e1.get i = e2.get i) → (loseE l e1).n = (loseE l e2).n ∧ ∀ i, (loseE l e1).get i = (loseE l e2).get i := by
          intro l
          induction l with
          | nil => exact fun e1 e2 h1 h2 => ⟨h1, h2⟩
          | cons o l ih =>
            intro e1 e2 h1 h2
            unfold loseE
            cases o.dst with
            | none => exact ih e1 e2 h1 h2
            | some d => exact ih _ _ (by rw [Env.lose_n, Env.lose_n, h1]) fun i => by rw [Env.lose_get, Env.lose_get, h1, h2]
        obtain ⟨k1, k2⟩ := hgt ops.toList { env0 with gs := env.gs } env0 rfl (fun _ => rfl)
        refine ⟨e2.1.trans k1, fun i => ?_, hg0⟩
        have := e2.2 i
        rw [k2] at this
        exact this
      · cases L with
        | exit ch m =>
          simp only [endE, Env.backK_eq, Mem.wholeK_eq] at hE
          cases hE
          intro r' a' w' hw h2 hx
          obtain ⟨u1, u2⟩ := part_back hMd hlo hx.1 hx.2
          refine ⟨rfl, r', ?_, by rw [h2]; exact hd.mono hx.2.ext, u1, (Stp.drew r M w).trans u2⟩
          exact ⟨hw.1, hw.2, fun g hg => by obtain ⟨s, hs⟩ := he.3 g hg; exact ⟨s, hx.2.ext _ _ hs⟩⟩
        | fin e m =>
          simp only [endE, Env.backK_eq, Mem.wholeK_eq] at hE
          cases hE
          intro r' a' w' hs h2
          obtain ⟨h1, h3, h4, _⟩ := hs
          obtain ⟨u1, u2⟩ := part_back hMd hlo h3 h4
          exact ⟨rfl, r', ⟨h1.1, h1.2, fun g hg => by obtain ⟨s, hs⟩ := he.3 g hg; exact ⟨s, h4.ext _ _ hs⟩⟩, by rw [h2]; exact hd.mono h4.ext, u1, (Stp.drew r M w).trans u2⟩
        | stop n rem e m =>
          simp only [endE, Env.backK_eq, Mem.wholeK_eq] at hE
          split at hE
          case h_2 => cases hE
          rename_i x2 e2 m2 hT2
          cases hE
          intro listed r' a' w' hR hs h2 hst
          obtain ⟨h1, h3, h4, _⟩ := hs
          obtain ⟨u1, u2⟩ := part_back hMd hlo h3 h4
          refine tail_sound hN hT hself hnd ro (fun hb' _ => ?_) n hT2 listed r' a' w' hR h1 u1 (h4.gl.trans hG) hst fun r2 a2 w2 k1 k2 k3 k4 => ?_
          · rw [hb hb']; exact fun i cs g hl => by cases hl
          · refine ⟨rfl, r2, ?_, ?_, k3, (Stp.drew r M w).trans (u2.trans k4)⟩
            · have hg1 : ∀ g ∈ env.gs, ∃ s, r2 (64 * g) = some (g, s) := fun g hg => by obtain ⟨s, hs⟩ := he.3 g hg; exact ⟨s, k4.ext _ _ (h4.ext _ _ hs)⟩
              cases x with
              | panic c =>
                have k1' : EW r2 e2 a2.tmps := k1
                exact ⟨k1'.1, k1'.2, hg1⟩
              | _ =>
                have k1' : ER r2 e2 a2.tmps := k1
                exact ⟨k1'.1, k1'.2, hg1⟩
            · rw [k2, h2]; exact hd.mono fun i g hi => k4.ext _ _ (h4.ext _ _ hi)
      · rw [List.mem_singleton.1 hx]
        exact fun e he => ((RemOk.start ops).mem e he).1
      · have := hMd0.inj j i ds cs k g (hSt j ds hj) hl hk hi e
        subst this
        rw [hn] at hj; cases hj
    have hp1 : ∀ (R : List Nat) i cs, look M.gl i = some cs → frameP R M.gl i = true := fun R i cs hl => frameP_gl hl
    have hp2 : ∀ i cs, look M.gl i = some cs → (fun _ => true : Nat → Bool) i = true := fun _ _ _ => rfl
    split at h
    · rename_i y hy
      cases h
      exact go _ _ false (hp1 _) (fun e => by cases e) (fun i cs hl => stayE_sub i cs hl) hy
    · split at h
      · rename_i y hy
        cases h
        exact go _ [] true (hp1 _) (fun _ => rfl) (fun i cs hl => by cases hl) hy
      · split at h
        · rename_i y hy
          cases h
          exact go _ _ false hp2 (fun e => by cases e) (fun i cs hl => stayE_sub i cs hl) hy
        · exact go _ [] true hp2 (fun _ => rfl) (fun i cs hl => by cases hl) h

/-! ### A range over a function. -/
def rangeE (P : Program) (self : Self) (g : Operand) (ps : Array Tmp) (as bd : Code) (env : Env) (M : Mem) : Rs := out env (match ev env g with
  | some (.func (.func f) first captured) => match P.funcs[f]? with
    | some fn => match fn.body with
      | some b => match env with | ⟨_, _, gs, _, _⟩ => M.openK (.loop .ready none env ps.toList as bd) fun d l M1 => match callE P self gs fn b (first.toList ++ [.func (.yield l) #[] #[]] ++ captured.toList) M1 with
        | some (.ret _ M2) => match look M2.ob l with
          | some (.loop st pd _ _ _ _) => bif decide (st = .busy) then none else match pd with
            | none => env.markK (.mark d) fun env => M2.killK l fun M2 => some (.normal, env, M2)
            | some .ret => env.markK (.mark d) fun env => M2.killK l fun M2 => some (.ret, env, M2)
            | some (.exit j) => env.markK (.mark d) fun env => M2.killK l fun M2 => some (.exit j, env, M2)
            | _ => none
          | _ => none
        | some (.pan ch M2) => env.markK (.mark d) fun env => some (.panic ch, env, M2)
        | none => none
      | none => none
    | none => none
  | _ => none)
theorem range_sound {P : Program} (hN : noRoutines P) {G : List (Nat × List Value)} {self : Self} (hself : SelfOk P G self) {g : Operand} {ps : Array Tmp} {as bd : Code} {env env' : Env} {M M' : Mem} {e : Exit} (h : rangeE P self g ps as bd env M = some (e, env', M')) :
    SoundAt P G (.rangeFunc g ps as bd) env M e env' M' := by
  unfold rangeE at h
  simp only [Env.markK_eq, Mem.openK_eq, Mem.killK_eq] at h
  obtain ⟨hrd, h⟩ := out_some h
  · split at h
    case h_2 => cases h
    rename_i f first captured h0
    split at h
    case h_2 => cases h
    rename_i fn hf
    split at h
    case h_2 => cases h
    rename_i b hb
    have hkeep : env'.rd = env.rd ∧ env'.gs = env.gs := by
      split at h
      case h_3 => cases h
      · split at h
        case h_2 => cases h
        rename_i st pd _ _ _ _ _
        generalize decide (st = .busy) = q at h
        cases q with
        | true => cases h
        | false =>
          simp only [cond_false] at h
          split at h <;> first | (cases h; exact ⟨rfl, rfl⟩) | cases h
      · cases h; exact ⟨rfl, rfl⟩
    refine ⟨hkeep.1, hkeep.2, fun ro r a w hro he hd hM hG => ?_⟩
    have hnone : ro = none := by
      cases ro with
      | none => rfl
      | some l => have := hro rfl; rw [hrd] at this; cases this
    subst hnone
    refine wpIn_rangeFunc fun fno _ => ?_
    obtain ⟨ys, vs, hv, e1, e2⟩ := (ev_sound he h0).of_func rfl
    -- the two new blocks
    obtain ⟨m1, m2⟩ := newO_sound (w' := w.alloc (.deferred (some []))) hM (o := .defd) (h := .deferred (some [])) rfl rfl rfl rfl rfl
    obtain ⟨n1, n2⟩ := newO_sound (w' := (w.alloc (.deferred (some []))).alloc (.loop { state := .ready, pending := none, fn := fno, tmps := a.tmps, params := ps, assign := as, body := bd, defers := w.heap.size })) m1
      (o := .loop .ready none env ps.toList as bd) (h := .loop { state := .ready, pending := none, fn := fno, tmps := a.tmps, params := ps, assign := as, body := bd, defers := w.heap.size }) ⟨fno, a.tmps, w.heap.size, by simp, he.mono m2.ext⟩ rfl rfl rfl rfl
    have hs := m2.trans n2
    have hsz : (w.alloc (.deferred (some []))).heap.size = w.heap.size + 1 := by simp
    have hl0 : more (more r (64 * M.next) (w.heap.size, 0)) (64 * (M.next + 1)) ((w.alloc (.deferred (some []))).heap.size, 0) (64 * (M.next + 1)) = some (w.heap.size + 1, 0) := by
      rw [more_self, hsz]
    have hd0 : more (more r (64 * M.next) (w.heap.size, 0)) (64 * (M.next + 1)) ((w.alloc (.deferred (some []))).heap.size, 0) (64 * M.next) = some (w.heap.size, 0) := n2.ext _ _ (more_self _ _ _)
    have hname : ¬ fn.name = "runtime.NumGoroutine" := by simpa using hN f fn hf
    refine ⟨w.heap.size + 1, _, ((w.alloc (.deferred (some []))).alloc (.loop { state := .ready, pending := none, fn := fno, tmps := a.tmps, params := ps, assign := as, body := bd, defers := w.heap.size })), { target := .fn (.func f) vs, args := ys ++ #[.func (.yield (w.heap.size + 1)) #[] #[]] }, ((w.alloc (.deferred (some []))).alloc (.loop { state := .ready, pending := none, fn := fno, tmps := a.tmps, params := ps, assign := as, body := bd, defers := w.heap.size })), f, ys ++ #[.func (.yield (w.heap.size + 1)) #[] #[]] ++ vs, ((w.alloc (.deferred (some []))).alloc (.loop { state := .ready, pending := none, fn := fno, tmps := a.tmps, params := ps, assign := as, body := bd, defers := w.heap.size })), run_enterLoop_outer fno a.tmps ps as bd, by simp [resolve, Deferred.ofValue, hv, show ∀ v, a.eval (.const v) = v from fun _ => rfl], fun _ _ => trivial, by simp [invoke, callFunc, hf, hname, hb], fun hn => (by cases hn), ?_⟩
    have hx : LR (more (more r (64 * M.next) (w.heap.size, 0)) (64 * (M.next + 1)) ((w.alloc (.deferred (some []))).heap.size, 0)) (first.toList ++ [.func (.yield (64 * (M.next + 1))) #[] #[]] ++ captured.toList) (ys.toList ++ [.func (.yield (w.heap.size + 1)) #[] #[]] ++ vs.toList) :=
      ((e1.mono hs.ext).append (.cons (.yield _ _ hl0) (.nil _))).append (e2.mono hs.ext)
    have hcall : ∀ c, callE P self env.gs fn b (first.toList ++ [.func (.yield (64 * (M.next + 1))) #[] #[]] ++ captured.toList) { M with next := M.next + 1 + 1, ob := (64 * (M.next + 1), .loop .ready none env ps.toList as bd) :: (64 * M.next, .defd) :: M.ob } = some c → _ := fun c hc =>
      call_sound hN hself (gs := env.gs) hf hb hx n1 hG (fun g hg => by obtain ⟨s, hs'⟩ := he.3 g hg; exact ⟨s, hs.ext _ _ hs'⟩) hc
    have earr : (ys.toList ++ [Value.func (.yield (w.heap.size + 1)) #[] #[]] ++ vs.toList).toArray = ys ++ #[Value.func (.yield (w.heap.size + 1)) #[] #[]] ++ vs := by
      apply Array.ext'
      simp
    split at h
    case h_3 => cases h
    · rename_i u M2 hq
      have hc := hcall _ hq
      rw [earr] at hc
      refine (callsIn_wide (n := 0)).2 (hc.mono fun e' w' hg => ?_)
      obtain ⟨v', r', rfl, hv', hM2, hs2⟩ := hg
      split at h
      case h_2 => cases h
      rename_i st pd x1 x2 x3 x4 hlk
      generalize hbz : decide (st = .busy) = q at h
      cases q with
      | true => cases h
      | false =>
        simp only [cond_false] at h
        have hne : st ≠ .busy := by simpa using hbz
        obtain ⟨g', ob, t1, t2, t3⟩ := hM2.obj _ _ hlk
        rw [hs2.ext _ _ hl0] at t1; cases t1
        obtain ⟨fn2, tmps2, dl2, rfl, he2⟩ := t3
        obtain ⟨s1, s2⟩ := killO_sound (w' := w'.putObj (w.heap.size + 1) (.loop { state := .exhausted, pending := pd, fn := fn2, tmps := tmps2, params := x2.toArray, assign := x3, body := x4, defers := dl2 })) hM2 hlk (hs2.ext _ _ hl0) (fun _ hk => World.putObj_heap_other hk) World.putObj_size rfl rfl rfl
        have htot := (hs.trans hs2).trans s2
        have hdr : DR r' (.mark (64 * M.next) :: env.ds) ({ target := .collected w.heap.size, args := #[] } :: a.defers) := ⟨⟨(w.heap.size, 0), hs2.ext _ _ hd0, rfl⟩, hd.mono htot.ext⟩
        have her : ER r' { env with ds := .mark (64 * M.next) :: env.ds } a.tmps := by
          have := he.mono htot.ext
          exact ⟨this.1, this.2, this.3⟩
        refine ⟨pd, _, run_endLoop t2 hne, ?_⟩
        split at h
        · cases h; exact ⟨rfl, r', her, hdr, s1, htot⟩
        · cases h; exact wpIn_ret ⟨rfl, r', her, hdr, s1, htot⟩
        · cases h; exact wpIn_exit ⟨rfl, r', her, hdr, s1, htot⟩
        · cases h
    · rename_i ch M2 hq
      have hc := hcall _ hq
      rw [earr] at hc
      refine (callsIn_wide (n := 0)).2 (hc.mono fun e' w' hg => ?_)
      obtain ⟨rfl, r', hM2, hs2⟩ := hg
      cases h
      have htot := hs.trans hs2
      refine ⟨rfl, r', ?_, ⟨⟨(w.heap.size, 0), hs2.ext _ _ hd0, rfl⟩, hd.mono htot.ext⟩, hM2, htot⟩
      have := (he.mono htot.ext).weak
      exact ⟨this.1, this.2, this.3⟩
end Ev
end Go.Proofs.Ytjinpngojdefiaa
/-! ## M -/
namespace Go.Proofs.Ytjinpngojdefiaa
open Go.RowKit
namespace Ev

def loopE (self : Self) (b : Code) : Nat → Env → Mem → Rs
  | 0, _, _ => none
  | n + 1, env, M => match self b env M with
    | some (.normal, e, m) => loopE self b n e m
    | q => q
def codeE (P : Program) (T : Tab) (self : Self) (c : Code) (env : Env) (M : Mem) : Rs := match c with
  | .skip => some (.normal, env, M)
  | .label _ => some (.normal, env, M)
  | .exit i => some (.exit i, env, M)
  | .ret => some (.ret, env, M)
  | .region _ ops draw => bif draw then drawE P T self ops env M
    else opsE P T self ops ops.toList env M
  | .seq x y => match self x env M with
    | some (.normal, e, m) => self y e m
    | q => q
  | .cond x t e => match ev env x with
    | some (.bool b) => self (bif b then t else e) env M
    | _ => none
  | .block i b => match self b env M with
    | some (.exit j, e, m) => bif Nat.beq j i then some (.normal, e, m) else some (.exit j, e, m)
    | q => q
  | .scope b => out env (match self b env M with
    | some (.goto _, _, _) => none
    | q => q)
  | .loop b => loopE self b 1000000 env M
  | .rangeFunc g ps as bd => rangeE P self g ps as bd env M
  | _ => none
def evF (P : Program) (T : Tab) : Nat → Self
  | 0 => fun _ _ _ => none
  | n + 1 => codeE P T (evF P T n)

theorem loop_sound {P : Program} {G : List (Nat × List Value)} {self : Self} (hself : SelfOk P G self) {b : Code} {e : Exit} {env' : Env} {M' : Mem} : ∀ (n : Nat) {env : Env} {M : Mem}, loopE self b n env M = some (e, env', M') →
    env'.rd = env.rd ∧ env'.gs = env.gs ∧ ∀ (ro : Option Nat) (r : Nat → Option (Nat × Nat)) (a : Act) (w : World), (ro.isSome = true → env.rd = true) → ER r env a.tmps → DR r env.ds a.defers → MR r M w → M.gl = G → ∀ Q : Exit → Act → World → Prop,
      (∀ a' w', (∃ r', EX e r' env' a'.tmps ∧ DR r' env'.ds a'.defers ∧ MR r' M' w' ∧ Stp r M w r' M' w') → Q e a' w') → Code.roundsIn (FR ro) 0 P b Q n a w := by
  intro n
  induction n with
  | zero => intro env M h; cases h
  | succ n ih =>
    intro env M h
    simp only [loopE] at h
    cases hs : self b env M with
    | none => rw [hs] at h; cases h
    | some q =>
      obtain ⟨e1, env1, M1⟩ := q
      rw [hs] at h
      obtain ⟨h1, h2, h3⟩ := hself _ _ _ _ _ _ hs
      cases e1 with
      | normal =>
        simp only at h
        obtain ⟨k1, k2, k3⟩ := ih h
        refine ⟨k1.trans h1, k2.trans h2, fun ro r a w hro he hd hM hG Q hQ => ?_⟩
        rw [roundsIn_succ]
        refine wpIn_mono (h3 ro r a w hro he hd hM hG) ?_
        rintro e' a' w' ⟨rfl, r', q1, q2, q3, q4⟩
        exact k3 ro r' a' w' (by rw [h1]; exact hro) q1 q2 q3 (q4.gl.trans hG) Q fun a'' w'' ⟨r'', p1, p2, p3, p4⟩ => hQ a'' w'' ⟨r'', p1, p2, p3, q4.trans p4⟩
      | _ =>
        cases h
        refine ⟨h1, h2, fun ro r a w hro he hd hM hG Q hQ => ?_⟩
        rw [roundsIn_succ]
        refine wpIn_mono (h3 ro r a w hro he hd hM hG) ?_
        rintro e' a' w' ⟨rfl, hr⟩
        exact hQ a' w' hr

theorem code_sound {P : Program} (hN : noRoutines P) {G : List (Nat × List Value)} {T : Tab} (hT : TOk P G T) (hm : P.follows .mixedOrders = true) {self : Self} (hself : SelfOk P G self) : SelfOk P G (codeE P T self) := by
  intro c env M e env' M' h
  cases c with
  | skip => cases h; exact ⟨rfl, rfl, fun ro r a w _ he hd hM _ => wpIn_skip ⟨rfl, r, he, hd, hM, .refl _ _ _⟩⟩
  | label l => cases h; exact ⟨rfl, rfl, fun ro r a w _ he hd hM _ => wpIn_label ⟨rfl, r, he, hd, hM, .refl _ _ _⟩⟩
  | exit i => cases h; exact ⟨rfl, rfl, fun ro r a w _ he hd hM _ => wpIn_exit ⟨rfl, r, he, hd, hM, .refl _ _ _⟩⟩
  | ret => cases h; exact ⟨rfl, rfl, fun ro r a w _ he hd hM _ => wpIn_ret ⟨rfl, r, he, hd, hM, .refl _ _ _⟩⟩
  | region id ops draw =>
    simp only [codeE] at h
    cases draw with
    | true =>
      simp only [cond_true] at h
      exact draw_sound hN hT hm hself h
    | false =>
      simp only [cond_false] at h
      obtain ⟨h1, h2, h3⟩ := opsE_sound hN hT hself h
      exact ⟨h1, h2, fun ro r a w hro he hd hM hG => wpIn_region_list (h3 ro r a w _ hro he hd hM hG fun r' a' w' q1 q2 q3 q4 => ⟨rfl, r', EX.of q1, q2, q3, q4⟩)⟩
  | seq x y =>
    simp only [codeE] at h
    cases hs : self x env M with
    | none => rw [hs] at h; cases h
    | some q =>
      obtain ⟨e1, env1, M1⟩ := q
      rw [hs] at h
      obtain ⟨h1, h2, h3⟩ := hself _ _ _ _ _ _ hs
      cases e1 with
      | normal =>
        simp only at h
        obtain ⟨k1, k2, k3⟩ := hself _ _ _ _ _ _ h
        refine ⟨k1.trans h1, k2.trans h2, fun ro r a w hro he hd hM hG => wpIn_seq (wpIn_mono (h3 ro r a w hro he hd hM hG) ?_)⟩
        rintro e' a' w' ⟨rfl, r', q1, q2, q3, q4⟩
        refine wpIn_mono (k3 ro r' a' w' (by rw [h1]; exact hro) q1 q2 q3 (q4.gl.trans hG)) ?_
        rintro e'' a'' w'' ⟨rfl, r'', p1, p2, p3, p4⟩
        exact ⟨rfl, r'', p1, p2, p3, q4.trans p4⟩
      | _ =>
        cases h
        refine ⟨h1, h2, fun ro r a w hro he hd hM hG => wpIn_seq (wpIn_mono (h3 ro r a w hro he hd hM hG) ?_)⟩
        rintro e' a' w' ⟨rfl, hr⟩
        exact ⟨rfl, hr⟩
  | cond x t f =>
    simp only [codeE] at h
    split at h
    case h_2 => cases h
    rename_i b hb
    obtain ⟨h1, h2, h3⟩ := hself _ _ _ _ _ _ h
    refine ⟨h1, h2, fun ro r a w hro he hd hM hG => ?_⟩
    refine wpIn_cond (ev_sound he hb).bool ?_
    have := h3 ro r a w hro he hd hM hG
    cases b <;> exact this
  | block i b =>
    simp only [codeE] at h
    cases hs : self b env M with
    | none => rw [hs] at h; cases h
    | some q =>
      obtain ⟨e1, env1, M1⟩ := q
      rw [hs] at h
      obtain ⟨h1, h2, h3⟩ := hself _ _ _ _ _ _ hs
      cases e1 with
      | exit j =>
        simp only at h
        cases hj : Nat.beq j i with
        | true =>
          rw [hj] at h; cases h
          refine ⟨h1, h2, fun ro r a w hro he hd hM hG => wpIn_block (wpIn_mono (h3 ro r a w hro he hd hM hG) ?_)⟩
          rintro e' a' w' ⟨rfl, hr⟩
          simp only [Exit.inBlock, Nat.eq_of_beq_eq_true hj, if_true]
          exact ⟨trivial, hr⟩
        | false =>
          rw [hj] at h; cases h
          have hne : ¬ j = i := fun e => by subst e; simp at hj
          refine ⟨h1, h2, fun ro r a w hro he hd hM hG => wpIn_block (wpIn_mono (h3 ro r a w hro he hd hM hG) ?_)⟩
          rintro e' a' w' ⟨rfl, hr⟩
          simp only [Exit.inBlock, if_neg hne]
          exact ⟨trivial, hr⟩
      | _ =>
        cases h
        refine ⟨h1, h2, fun ro r a w hro he hd hM hG => wpIn_block (wpIn_mono (h3 ro r a w hro he hd hM hG) ?_)⟩
        rintro e' a' w' ⟨rfl, hr⟩
        exact ⟨rfl, hr⟩
  | scope b =>
    simp only [codeE] at h
    obtain ⟨hrd, h⟩ := out_some h
    have hs : self b env M = some (e, env', M') ∧ ∀ l, e ≠ .goto l := by
      split at h
      · cases h
      · rename_i hne
        refine ⟨h, fun l el => ?_⟩
        subst el
        exact hne l env' M' h
    obtain ⟨h1, h2, h3⟩ := hself _ _ _ _ _ _ hs.1
    refine ⟨h1, h2, fun ro r a w hro he hd hM hG => ?_⟩
    have hnone : ro = none := by
      cases ro with
      | none => rfl
      | some l => have := hro rfl; rw [hrd] at this; cases this
    subst hnone
    refine (wpIn_wide (n := 0)).2 (wp_scope_straight ((wpIn_wide (n := 0)).1 (wpIn_mono (h3 none r a w hro he hd hM hG) ?_)))
    rintro e' a' w' ⟨rfl, hr⟩
    cases e' with
    | goto l => exact absurd rfl (hs.2 l)
    | _ => exact ⟨rfl, hr⟩
  | loop b =>
    simp only [codeE] at h
    obtain ⟨h1, h2, h3⟩ := loop_sound hself 1000000 h
    exact ⟨h1, h2, fun ro r a w hro he hd hM hG => wpIn_loop_rounds 1000000 (h3 ro r a w hro he hd hM hG _ fun a' w' hr => ⟨rfl, hr⟩)⟩
  | rangeFunc g ps as bd => exact range_sound hN hself h
  | _ => cases h
theorem evF_ok {P : Program} (hN : noRoutines P) {G : List (Nat × List Value)} {T : Tab} (hT : TOk P G T) (hm : P.follows .mixedOrders = true) : ∀ n, SelfOk P G (evF P T n)
  | 0 => fun _ _ _ _ _ _ h => by cases h
  | n + 1 => code_sound hN hT hm (evF_ok hN hT hm n)

/-- The tables are laid out as they should be: each under its variable's number times 64, below 64 K, of plain values. -/
def glOk (K : Nat) (G : List (Nat × List Value)) : Bool := G.all fun p => (Nat.blt p.1 (64 * K) && Nat.beq (p.1 % 64) 0) && p.2.all (af 1)
/-- What a closed call comes to. -/
def runA (P : Program) (G : List (Nat × List Value)) (K : Nat) (T : Tab) (n : Nat) (f : FuncId) (xs : List Value) : Option Value := match P.funcs[f]? with
  | some fn => match fn.body with
    | some b => match callE P (evF P T n) (G.map fun p => p.1 / 64) fn b xs { next := K, lo := 64 * K, bl := G, gl := G, ob := [] } with
      | some (.ret v _) => some v
      | _ => none
    | none => none
  | none => none
theorem look_mem {α : Type} : ∀ {G : List (Nat × α)} {i : Nat} {c : α}, look G i = some c → (i, c) ∈ G
  | [], _, _, h => by cases h
  | (k, d) :: G, i, c, h => by
    rw [look_cons] at h
    by_cases e : k = i
    · subst e; rw [if_pos rfl] at h; cases h; exact List.mem_cons_self
    · rw [if_neg e] at h; exact List.mem_cons_of_mem _ (look_mem h)
theorem look_of_mem {α : Type} : ∀ {G : List (Nat × α)} {p : Nat × α}, p ∈ G → ∃ c, look G p.1 = some c
  | q :: G, p, h => by
    obtain ⟨k, d⟩ := q
    rw [look_cons]
    by_cases e : k = p.1
    · exact ⟨d, by rw [if_pos e]⟩
    · rw [if_neg e]
      rcases List.mem_cons.1 h with rfl | h
      · exact absurd rfl e
      · exact look_of_mem h
theorem runA_sound {P : Program} (hN : noRoutines P) {G : List (Nat × List Value)} {K : Nat} (hG : glOk K G = true) {T : Tab} (hT : TOk P G T) (hm : P.follows .mixedOrders = true) {n : Nat} {f : FuncId} {xs : List Value} {v : Value} (h : runA P G K T n f xs = some v) (hx : xs.all (af 4) = true) (hv : af 4 v = true) (w : World) (hw : GL G w) :
    Calls P f xs.toArray w fun e w' => e = .returned v ∧ Below w.heap.size w w' := by
  unfold runA at h
  split at h
  case h_2 => cases h
  rename_i fn hf
  split at h
  case h_2 => cases h
  rename_i b hb
  split at h
  case h_2 => cases h
  rename_i u M' hc
  cases h
  have ok : ∀ i cs, look G i = some cs → i < 64 * K ∧ i % 64 = 0 ∧ cs.all (af 1) = true := fun i cs hl => by
    have := List.all_eq_true.1 hG _ (look_mem hl)
    simp only [Bool.and_eq_true] at this
    exact ⟨Nat.le_of_ble_eq_true this.1.1, Nat.eq_of_beq_eq_true this.1.2, this.2⟩
  have hr0 : ∀ i cs, look G i = some cs → (fun i => match look G i with | some _ => some (i / 64, 0) | none => none : Nat → Option (Nat × Nat)) i = some (i / 64, 0) := fun i cs hl => by simp only [hl]
  have hr1 : ∀ i g, (fun i => match look G i with | some _ => some (i / 64, 0) | none => none : Nat → Option (Nat × Nat)) i = some g → (∃ cs, look G i = some cs) ∧ g = (i / 64, 0) := fun i g hi => by
    simp only at hi
    cases hl : look G i with
    | none => rw [hl] at hi; cases hi
    | some cs => rw [hl] at hi; cases hi; exact ⟨⟨cs, rfl⟩, rfl⟩
  have hM : MR (fun i => match look G i with | some _ => some (i / 64, 0) | none => none) { next := K, lo := 64 * K, bl := G, gl := G, ob := [] } w := by
    refine ⟨fun i cs hl => ?_, fun i j cs ds g k hl hl' hi hj e => ?_, fun i g hi => ?_, fun i cs hl => ?_, fun _ _ hl => (by cases hl), fun _ _ _ _ _ _ hl => (by cases hl)⟩
    · obtain ⟨t, cc, h1, h2⟩ := hw i cs hl
      obtain ⟨o1, o2, o3⟩ := ok i cs hl
      exact ⟨(i / 64, 0), t, cc, hr0 i cs hl, h1, fun h0 => by omega, fun j v hv => ⟨v, h2 j v hv, .same 1 _ (List.all_eq_true.1 o3 v (List.mem_of_getElem? hv))⟩⟩
    · obtain ⟨_, rfl⟩ := hr1 _ _ hi
      obtain ⟨_, rfl⟩ := hr1 _ _ hj
      have o1 := (ok _ _ hl).2.1
      have o2 := (ok _ _ hl').2.1
      simp only at e
      omega
    · obtain ⟨⟨cs, hl⟩, rfl⟩ := hr1 _ _ hi
      exact (ok _ _ hl).1
    · obtain ⟨o1, o2, o3⟩ := ok i cs hl
      exact ⟨o1, hl, ⟨0, hr0 i cs hl⟩, o3⟩
  have hg : ∀ g ∈ G.map (fun p => p.1 / 64), ∃ s, (fun i => match look G i with | some _ => some (i / 64, 0) | none => none : Nat → Option (Nat × Nat)) (64 * g) = some (g, s) := fun g hg => by
    obtain ⟨p, hp, rfl⟩ := List.mem_map.1 hg
    obtain ⟨cs, hl⟩ := look_of_mem hp
    have o := (ok _ _ hl).2.1
    have e : 64 * (p.1 / 64) = p.1 := by omega
    rw [e]
    exact ⟨0, hr0 _ _ hl⟩
  refine (call_sound hN (evF_ok hN hT hm n) hf hb (LR.of_af hx) hM rfl hg hc).mono ?_
  rintro e w' ⟨v', r', rfl, h1, h2, h3⟩
  rw [h1.eq hv]
  refine ⟨rfl, h3.os, h3.tape, h3.output, h3.size, fun k hk => h3.keep k hk (fun i cs g hlo hl hi => ?_) fun _ _ _ hl => by cases hl⟩
  have := (ok i cs hl).1
  have hlo' : 64 * K ≤ i := hlo
  omega
/-- The same, as an entry of a table. -/
theorem known_of {P : Program} (hN : noRoutines P) {G : List (Nat × List Value)} {K : Nat} (hG : glOk K G = true) {T : Tab} (hT : TOk P G T) (hm : P.follows .mixedOrders = true) {n : Nat} {f : FuncId} {xs : List Value} {v : Value} (hx : xs.all (af 4) = true) (hv : af 4 v = true) (h : runA P G K T n f xs = some v) : Known P G (f, xs, v) :=
  ⟨hx, hv, fun w hw => runA_sound hN hG hT hm h hx hv w hw⟩
theorem tok_nil (P : Program) (G : List (Nat × List Value)) : TOk P G ⟨.e, .e⟩ := ⟨fun _ h => h.elim, fun _ h => h.elim⟩
theorem tok_k {P : Program} {G : List (Nat × List Value)} {q : FuncId × List Value × Value} {T : Tab} (h : Known P G q) (hT : TOk P G T) : TOk P G (T.putK q) := ⟨fun p hp => by
  rcases HT.put_has _ _ _ hp with rfl | hp
  · exact h
  · exact hT.1 p hp, hT.2⟩
theorem tok_c {P : Program} {G : List (Nat × List Value)} {q : KC} {T : Tab} (h : KnownC P G q) (hT : TOk P G T) : TOk P G (T.putC q) := ⟨hT.1, fun p hp => by
  rcases HT.put_has _ _ _ hp with rfl | hp
  · exact h
  · exact hT.2 p hp⟩
/-- A call in a state of memory, run. -/
def subB (bl : List (Nat × List Value)) : List (Nat × List Value) → Bool
  | [] => true
  | p :: l => match look bl p.1 with
    | some cs => beqL (beqV 6) p.2 cs && subB bl l
    | none => false
theorem subB_look {bl : List (Nat × List Value)} : ∀ {l : List (Nat × List Value)} {i : Nat} {cs : List Value}, subB bl l = true → look l i = some cs → look bl i = some cs
  | [], _, _, _, h => by cases h
  | (j, ds) :: l, i, cs, h, hl => by
    unfold subB at h
    split at h
    case h_2 => cases h
    rename_i es he
    simp only [Bool.and_eq_true] at h
    rw [look_cons] at hl
    split at hl
    · rename_i e; subst e; cases hl; rw [beqL_eq (beqV_eq 6) h.1]; exact he
    · exact subB_look h.2 hl
def subO (ob : List (Nat × AOb)) : List (Nat × AOb) → Bool
  | [] => true
  | p :: l => match p.2 with
    | .map es => (match look ob p.1 with
      | some (.map fs) => beqEs es fs && subO ob l
      | _ => false)
    | _ => false
theorem subO_look {ob : List (Nat × AOb)} : ∀ {l : List (Nat × AOb)} {i : Nat} {o : AOb}, subO ob l = true → look l i = some o → look ob i = some o
  | [], _, _, _, h => by cases h
  | (j, o') :: l, i, o, h, hl => by
    cases o' with
    | map es =>
      simp only [subO] at h
      split at h
      case h_2 => cases h
      rename_i fs hf
      simp only [Bool.and_eq_true] at h
      rw [look_cons] at hl
      split at hl
      · rename_i e; subst e; cases hl; rw [beqEs_eq h.1]; exact hf
      · exact subO_look h.2 hl
    | _ => simp only [subO] at h; cases h
def chkC (P : Program) (G : List (Nat × List Value)) (n : Nat) (T : Tab) (q : KC) : Bool := match P.funcs[q.f]? with
  | some fn => match fn.body with
    | some b => appK q.bl G fun bl => match callE P (evF P T n) (G.map fun p => p.1 / 64) fn b q.xs ⟨q.next, q.lo, bl, G, q.ob⟩ with
      | some (.ret u M') => (beqV 6 u q.v && (Nat.beq M'.next q.next' && subO M'.ob q.ob')) && subB M'.bl q.bl'
      | _ => false
    | none => false
  | none => false
theorem chkC_sound {P : Program} (hN : noRoutines P) {G : List (Nat × List Value)} {K : Nat} (hG : glOk K G = true) {T : Tab} (hT : TOk P G T) (hm : P.follows .mixedOrders = true) {n : Nat} {q : KC} (h : chkC P G n T q = true) : KnownC P G q := by
  intro r ys w hx hM
  unfold chkC at h
  split at h
  case h_2 => cases h
  rename_i fn hf
  split at h
  case h_2 => cases h
  rename_i b hb
  rw [appK_eq] at h
  split at h
  case h_2 => cases h
  rename_i u M' hc
  simp only [Bool.and_eq_true] at h
  obtain ⟨⟨h1, h2, h3⟩, h4⟩ := h
  have hM0 : MR r ⟨q.next, q.lo, q.bl ++ G, G, q.ob⟩ w := hM
  refine (call_sound hN (evF_ok hN hT hm n) hf hb hx hM0 rfl (fun g hg => ?_) hc).mono fun e w' ⟨v', r', he, hv, hm', hs⟩ => ?_
  · obtain ⟨p, hp, rfl⟩ := List.mem_map.1 hg
    obtain ⟨c, hl⟩ := look_of_mem hp
    have hp0 := List.all_eq_true.1 hG p hp
    simp only [Bool.and_eq_true] at hp0
    have hmod := Nat.eq_of_beq_eq_true hp0.1.2
    obtain ⟨_, _, ⟨s, hs⟩, _⟩ := hM.glob p.1 c hl
    exact ⟨s, by rw [show 64 * (p.1 / 64) = p.1 by omega]; exact hs⟩
  · have e0 := beqV_eq 6 _ _ h1
    subst e0
    have e1 := hs.gl
    have e2 := hs.lo
    have e3 := Nat.eq_of_beq_eq_true h2
    have e4 : ∀ i o, look q.ob' i = some o → look M'.ob i = some o := fun i o hl => subO_look h3 hl
    have e5 : ∀ i cs, look (q.bl' ++ G) i = some cs → look M'.bl i = some cs := fun i cs hl => by
      rw [look_append] at hl
      cases hq : look q.bl' i with
      | some es => rw [hq] at hl; cases hl; exact subB_look h4 hq
      | none =>
        rw [hq] at hl
        exact (hm'.glob i cs (by rw [e1]; exact hl)).2.1
    have e6 : ∀ i cs, look M'.gl i = some cs → look (q.bl' ++ G) i = some cs := fun i cs hl => by
      have hl' : look G i = some cs := by rw [e1] at hl; exact hl
      rw [look_append]
      cases hq : look q.bl' i with
      | some es =>
        have k1 := subB_look h4 hq
        have k2 := (hm'.glob i cs hl).2.1
        rw [k1] at k2; cases k2; rfl
      | none => exact hl'
    have k1 := hm'.sub e5 e6
    have k2 := hs.fewer e5
    have k3 : MR r' { M' with bl := q.bl' ++ G, ob := q.ob' } w' := ⟨k1.blk, k1.inj, k1.bound, k1.glob, fun i o hl => k1.obj i o (e4 i o hl), fun i j o p g h h1 h2 => k1.injO i j o p g h (e4 _ _ h1) (e4 _ _ h2)⟩
    have k4 : Stp r ⟨q.next, q.lo, q.bl ++ G, G, q.ob⟩ w r' { M' with bl := q.bl' ++ G, ob := q.ob' } w' := ⟨k2.ext, k2.lo, k2.next, k2.old, k2.os, k2.tape, k2.output, k2.size, k2.keep, k2.anc, k2.gl, fun i o g hl => k2.ancO i o g (e4 i o hl)⟩
    obtain ⟨next, lo, bl, gl, ob⟩ := M'
    simp only at e1 e2 e3 k3 k4
    subst e1; subst e2; subst e3
    exact ⟨v', r', he, hv, k3, k4⟩
/-- One known call after the other, each by those before it. -/
def chkS (P : Program) (G : List (Nat × List Value)) (K n : Nat) : Tab → List (Sum (FuncId × List Value × Value) KC) → Bool
  | _, [] => true
  | T, .inl (f, xs, v) :: L => bif xs.all (af 4) && af 4 v then match runA P G K T n f xs with
      | some u => bif beqV 6 u v then chkS P G K n (T.putK (f, xs, v)) L else false
      | none => false
    else false
  | T, .inr q :: L => bif chkC P G n T q then chkS P G K n (T.putC q) L else false
def pushT : Tab → List (Sum (FuncId × List Value × Value) KC) → Tab
  | T, [] => T
  | T, .inl q :: L => pushT (T.putK q) L
  | T, .inr q :: L => pushT (T.putC q) L
theorem chkS_tok {P : Program} (hN : noRoutines P) {G : List (Nat × List Value)} {K : Nat} (hG : glOk K G = true) (hm : P.follows .mixedOrders = true) {n : Nat} : ∀ {L : List (Sum (FuncId × List Value × Value) KC)} {T : Tab}, TOk P G T → chkS P G K n T L = true → TOk P G (pushT T L)
  | [], _, hT, _ => hT
  | .inl (f, xs, v) :: L, T, hT, h => by
    simp only [chkS] at h
    generalize hc : (xs.all (af 4) && af 4 v) = c at h
    cases c with
    | false => cases h
    | true =>
      simp only [Bool.and_eq_true] at hc
      simp only [cond_true] at h
      split at h
      case h_2 => cases h
      rename_i u hu
      cases hb : beqV 6 u v with
      | false => rw [hb] at h; cases h
      | true =>
        rw [hb] at h
        have e := beqV_eq 6 _ _ hb
        subst e
        exact chkS_tok (L := L) (T := T.putK (f, xs, u)) hN hG hm (tok_k (known_of hN hG hT hm hc.1 hc.2 hu) hT) h
  | .inr q :: L, T, hT, h => by
    simp only [chkS] at h
    cases hb : chkC P G n T q with
    | false => rw [hb] at h; cases h
    | true =>
      rw [hb] at h
      exact chkS_tok (L := L) (T := T.putC q) hN hG hm (tok_c (chkC_sound hN hG hT hm hb) hT) h
end Ev
end Go.Proofs.Ytjinpngojdefiaa
