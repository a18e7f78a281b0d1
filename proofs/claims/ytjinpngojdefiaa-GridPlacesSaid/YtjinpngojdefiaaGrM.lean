/- Grids: products of sizes, places of indices, digits of numbers: plain mathematics. -/
namespace Go.Proofs.Ytjinpngojdefiaa
namespace Gr

def prod : List Nat → Nat
  | [] => 1
  | n :: s => n * prod s
theorem prod_snoc (s : List Nat) (n : Nat) : prod (s ++ [n]) = prod s * n := by
  induction s with
  | nil => simp [prod]
  | cons m s ih => simp [prod, ih, Nat.mul_assoc]
theorem prod_pos {s : List Nat} (h : ∀ n ∈ s, 1 ≤ n) : 1 ≤ prod s := by
  induction s with
  | nil => simp [prod]
  | cons m s ih =>
    have h1 := h m (by simp)
    have h2 := ih fun n hn => h n (by simp [hn])
    simp only [prod]
    exact Nat.mul_pos h1 h2
theorem prod_le {s : List Nat} {k : Nat} (h : ∀ n ∈ s, n ≤ k) : prod s ≤ k ^ s.length := by
  induction s with
  | nil => simp [prod]
  | cons m s ih =>
    have h1 := h m (by simp)
    have h2 := ih fun n hn => h n (by simp [hn])
    simp only [prod, List.length_cons, Nat.pow_succ]
    rw [Nat.mul_comm (k ^ s.length) k]
    exact Nat.mul_le_mul h1 h2
/-- The number of an index, its last part running fastest. -/
def plc : List Nat → List Nat → Nat → Nat
  | n :: s, i :: ix, p => plc s ix (p * n + i)
  | _, _, p => p
theorem plc_lin : ∀ (s ix : List Nat) (p : Nat), s.length = ix.length → plc s ix p = p * prod s + plc s ix 0
  | [], [], p, _ => by simp [plc, prod]
  | n :: s, i :: ix, p, h => by
    have h' : s.length = ix.length := by simpa using h
    simp only [plc, prod]
    rw [plc_lin s ix (p * n + i) h', plc_lin s ix (0 * n + i) h']
    simp only [Nat.zero_mul, Nat.zero_add, Nat.add_mul, Nat.mul_assoc]
    omega
theorem plc_take (s ix : List Nat) (k : Nat) (h1 : k < s.length) (h2 : k < ix.length) (p : Nat) : plc (s.take (k + 1)) (ix.take (k + 1)) p = plc (s.take k) (ix.take k) p * s[k] + ix[k] := by
  induction s generalizing ix k p with
  | nil => simp at h1
  | cons n s ih =>
    cases ix with
    | nil => simp at h2
    | cons i ix =>
      cases k with
      | zero => simp [plc]
      | succ k => simpa [plc] using ih ix k (by simpa using h1) (by simpa using h2) (p * n + i)
def below : List Nat → List Nat → Prop
  | [], [] => True
  | i :: ix, n :: s => i < n ∧ below ix s
  | _, _ => False
theorem below.length : ∀ {ix s : List Nat}, below ix s → ix.length = s.length
  | [], [], _ => rfl
  | _ :: ix, _ :: s, h => by simp [below.length (ix := ix) (s := s) h.2]
theorem below_iff {ix s : List Nat} : below ix s ↔ ix.length = s.length ∧ ∀ j (h1 : j < ix.length) (h2 : j < s.length), ix[j] < s[j] := by
  induction ix generalizing s with
  | nil => cases s <;> simp [below]
  | cons i ix ih =>
    cases s with
    | nil => simp [below]
    | cons n s =>
      simp only [below, ih, List.length_cons, Nat.add_right_cancel_iff]
      constructor
      · rintro ⟨h, h1, h2⟩
        refine ⟨h1, fun j a b => ?_⟩
        cases j with
        | zero => exact h
        | succ j => exact h2 j (by simpa using a) (by simpa using b)
      · rintro ⟨h1, h2⟩
        exact ⟨h2 0 (by simp) (by simp), h1, fun j a b => h2 (j + 1) (by simp; omega) (by simp; omega)⟩
theorem plc_lt : ∀ {ix s : List Nat}, below ix s → plc s ix 0 < prod s
  | [], [], _ => by simp [plc, prod]
  | [], _ :: _, h => h.elim
  | _ :: _, [], h => h.elim
  | i :: ix, n :: s, ⟨h, hs⟩ => by
    have := plc_lt hs
    simp only [plc, prod, Nat.zero_mul, Nat.zero_add]
    rw [plc_lin s ix i hs.length.symm]
    have h2 : (i + 1) * prod s ≤ n * prod s := Nat.mul_le_mul_right _ h
    rw [Nat.add_mul, Nat.one_mul] at h2
    omega
theorem plc_inj : ∀ {ix iy s : List Nat}, below ix s → below iy s → plc s ix 0 = plc s iy 0 → ix = iy
  | [], [], [], _, _, _ => rfl
  | [], _ :: _, [], _, h, _ => h.elim
  | _ :: _, _, [], h, _, _ => h.elim
  | [], _, _ :: _, h, _, _ => h.elim
  | _ :: _, [], _ :: _, _, h, _ => h.elim
  | i :: ix, j :: iy, n :: s, ⟨h1, h1s⟩, ⟨h2, h2s⟩, e => by
    simp only [plc, Nat.zero_mul, Nat.zero_add] at e
    rw [plc_lin s ix i h1s.length.symm, plc_lin s iy j h2s.length.symm] at e
    have a := plc_lt h1s
    have b := plc_lt h2s
    have hij : i = j := by
      rcases Nat.lt_trichotomy i j with q | q | q
      · have : (i + 1) * prod s ≤ j * prod s := Nat.mul_le_mul_right _ q
        rw [Nat.add_mul, Nat.one_mul] at this; omega
      · exact q
      · have : (j + 1) * prod s ≤ i * prod s := Nat.mul_le_mul_right _ q
        rw [Nat.add_mul, Nat.one_mul] at this; omega
    subst hij
    rw [plc_inj h1s h2s (by omega)]
/-- The digits of a number, for sizes from the last one on: what a loop has laid, and what is left of the number. -/
theorem digit_step (s ix : List Nat) (n m k : Nat) (hl : s.length = ix.length) (h : m * prod s + plc s ix 0 = k) : (m / n) * prod (n :: s) + plc (n :: s) (m % n :: ix) 0 = k := by
  simp only [prod, plc, Nat.zero_mul, Nat.zero_add]
  rw [plc_lin s ix (m % n) hl, ← h]
  have : m / n * (n * prod s) + m % n * prod s = m * prod s := by
    rw [← Nat.mul_assoc, ← Nat.add_mul, Nat.div_add_mod']
  omega
theorem digit_end (ix s : List Nat) (m k : Nat) (h : m * prod s + plc s ix 0 = k) (hk : k < prod s) : plc s ix 0 = k := by
  rcases Nat.eq_zero_or_pos m with rfl | hm
  · omega
  · have : 1 * prod s ≤ m * prod s := Nat.mul_le_mul_right _ hm
    omega
theorem below.take {ix s : List Nat} (h : below ix s) (k : Nat) : below (ix.take k) (s.take k) := by
  rw [below_iff] at h ⊢
  refine ⟨by simp [h.1], fun j h1 h2 => ?_⟩
  simp only [List.getElem_take]
  exact h.2 j (by simp at h1; omega) (by simp at h2; omega)
theorem plc_le {ix s : List Nat} (h : below ix s) (k : Nat) : plc (s.take k) (ix.take k) 0 < prod (s.take k) := plc_lt (h.take k)
theorem below.at {ix s : List Nat} (h : below ix s) (j : Nat) (h1 : j < ix.length) (h2 : j < s.length) : ix[j] < s[j] := (below_iff.1 h).2 j h1 h2
end Gr
end Go.Proofs.Ytjinpngojdefiaa
