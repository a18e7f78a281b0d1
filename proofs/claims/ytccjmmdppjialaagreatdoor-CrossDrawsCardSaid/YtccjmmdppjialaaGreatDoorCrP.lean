/- Seeds, and numbers exchanged: what the folds of some things are; how many things a fold has. -/
namespace Go.Proofs.YtccjmmdppjialaaGreatDoor
def nx (s : Int) : Int := (48271 * s) % 2147483647
theorem nx_range {s : Int} (h1 : 1 ≤ s) (h2 : s ≤ 2147483646) : (1899818559 * nx s) % 2147483647 = s ∧ 1 ≤ nx s ∧ nx s ≤ 2147483646 := by
  unfold nx
  obtain ⟨q, r, hq, hr, hr2⟩ : ∃ q r : Int, 48271 * s = 2147483647 * q + r ∧ 0 ≤ r ∧ r < 2147483647 := ⟨48271 * s / 2147483647, 48271 * s % 2147483647, by omega, by omega, by omega⟩
  have e : 48271 * s % 2147483647 = r := by omega
  rw [e]
  obtain ⟨m, hm⟩ : ∃ m : Int, m = 1899818559 * q - 42704 * s := ⟨_, rfl⟩
  have e2 : 1899818559 * r = s - 2147483647 * m := by omega
  refine ⟨by rw [e2]; omega, ?_, by omega⟩
  refine Classical.byContradiction fun h => ?_
  have h0 : r = 0 := by omega
  subst h0
  omega
def swp (l : List Nat) (i j : Nat) : List Nat := (l.set i (l.getD j 0)).set j (l.getD i 0)
theorem swp_len (l : List Nat) (i j : Nat) : (swp l i j).length = l.length := by simp [swp]
theorem swp_perm {l : List Nat} {i j : Nat} (hi : i < l.length) (hj : j < l.length) : (swp l i j).Perm l := by
  have := List.set_set_perm (as := l) hi hj
  simpa [swp, List.getD_eq_getElem?_getD, List.getElem?_eq_getElem hi, List.getElem?_eq_getElem hj] using this
/-- The numbers exchanged: i from the last one down to 1. -/
def mix : Nat → Int → List Nat → List Nat
  | 0, _, l => l
  | i + 1, s, l => mix i (nx s) (swp l (i + 1) (nx s % (i + 2 : Nat)).toNat)
theorem mix_perm : ∀ (i : Nat) (s : Int) (l : List Nat), i < l.length → (mix i s l).Perm l
  | 0, _, l, _ => .refl l
  | i + 1, s, l, h => by
    unfold mix
    refine (mix_perm i _ _ (by rw [swp_len]; omega)).trans (swp_perm h ?_)
    have : 0 ≤ nx s % (i + 2 : Nat) := Int.emod_nonneg _ (by omega)
    have : nx s % (i + 2 : Nat) < (i + 2 : Nat) := Int.emod_lt_of_pos _ (by omega)
    omega
def mixed (n : Nat) (s : Int) : List Nat := if s = 0 then List.range n else mix (n - 1) s (List.range n)
theorem mixed_perm (n : Nat) (s : Int) (h : 0 < n) : (mixed n s).Perm (List.range n) := by
  unfold mixed
  split
  · exact .refl _
  · exact mix_perm _ _ _ (by simp; omega)
/-- Each thing is given the number of its place, modulo k. -/
def laid (k : Nat) : Nat → List Nat → List Nat → List Nat
  | _, [], o => o
  | i, t :: ts, o => laid k (i + 1) ts (o.set t (i % k))
theorem laid_len (k : Nat) : ∀ (i : Nat) (ts o : List Nat), (laid k i ts o).length = o.length
  | _, [], o => rfl
  | i, t :: ts, o => by unfold laid; rw [laid_len]; simp
theorem laid_far (k : Nat) : ∀ (i : Nat) (ts o : List Nat) (x : Nat), x ∉ ts → (laid k i ts o)[x]? = o[x]?
  | _, [], o, x, _ => rfl
  | i, t :: ts, o, x, h => by
    simp only [List.mem_cons, not_or] at h
    unfold laid; rw [laid_far k _ _ _ _ h.2, List.getElem?_set_ne (Ne.symm h.1)]
theorem laid_at (k : Nat) : ∀ (i : Nat) (ts o : List Nat), ts.Nodup → (∀ t ∈ ts, t < o.length) → ∀ j (h : j < ts.length), (laid k i ts o)[ts[j]]? = some ((i + j) % k)
  | _, [], _, _, _, j, h => absurd h (by simp)
  | i, t :: ts, o, hn, hl, j, h => by
    unfold laid
    have hn' := List.nodup_cons.1 hn
    cases j with
    | zero =>
      simp only [List.getElem_cons_zero]
      rw [laid_far k _ _ _ _ hn'.1, List.getElem?_set_self (hl t (by simp))]
      rfl
    | succ j =>
      simp only [List.getElem_cons_succ]
      rw [laid_at k (i + 1) ts _ hn'.2 (fun t ht => by rw [List.length_set]; exact hl t (by simp [ht])) j (by simpa using h)]
      congr 2
      omega
def folds (n k : Nat) (s : Int) : List Nat := laid k 0 (mixed n s) (List.replicate n 0)
theorem folds_len (n k : Nat) (s : Int) : (folds n k s).length = n := by unfold folds; rw [laid_len]; simp
theorem folds_perm (n k : Nat) (s : Int) (hn : 0 < n) : (folds n k s).Perm ((List.range n).map (· % k)) := by
  have hp := mixed_perm n s hn
  have hlen : (mixed n s).length = n := by rw [hp.length_eq]; simp
  have hnd : (mixed n s).Nodup := hp.nodup_iff.2 List.nodup_range
  have hlt : ∀ t ∈ mixed n s, t < (List.replicate n 0).length := fun t ht => by
    have := hp.mem_iff.1 ht
    simpa using this
  have h1 : folds n k s = (List.range n).map fun t => (folds n k s).getD t 0 := by
    apply List.ext_getElem
    · rw [folds_len]; simp
    · intro i h1 h2
      simp [List.getD_eq_getElem?_getD, List.getElem?_eq_getElem h1]
  have h2 : (mixed n s).map (fun t => (folds n k s).getD t 0) = (List.range n).map (· % k) := by
    apply List.ext_getElem
    · simp [hlen]
    · intro i h1 h2
      have hi : i < (mixed n s).length := by simpa using h1
      have := laid_at k 0 (mixed n s) (List.replicate n 0) hnd hlt i hi
      simp only [List.getElem_map, List.getElem_range, List.getD_eq_getElem?_getD]
      unfold folds
      rw [this]
      simp
  rw [h1, ← h2]
  exact (hp.map _).symm
theorem folds_zero (n k : Nat) (i : Nat) (h : i < n) : (folds n k 0)[i]? = some (i % k) := by
  have := laid_at k 0 (List.range n) (List.replicate n 0) List.nodup_range (fun t ht => by simpa using ht) i (by simpa using h)
  simpa [folds, mixed] using this
def cnt (n k x : Nat) : Nat := n / k + if x < n % k then 1 else 0
theorem count_range (k x : Nat) (hx : x < k) : ∀ n, ((List.range n).map (· % k)).count x = cnt n k x
  | 0 => by simp [cnt]
  | n + 1 => by
    rw [List.range_succ, List.map_append, List.count_append, count_range k x hx n]
    simp only [List.map_cons, List.map_nil, List.count_cons, List.count_nil, cnt]
    have hk : 0 < k := by omega
    have h1 := Nat.div_add_mod n k
    have h2 := Nat.mod_lt n hk
    by_cases hc : n % k + 1 = k
    · have e1 : (n + 1) / k = n / k + 1 := by
        rw [Nat.div_eq_iff hk]
        have : (n / k + 1) * k = k * (n / k) + k := by rw [Nat.add_mul, Nat.mul_comm]; omega
        omega
      have e2 : (n + 1) % k = 0 := by
        have := Nat.div_add_mod (n + 1) k
        rw [e1, Nat.mul_add] at this
        omega
      rw [e1, e2, if_neg (Nat.not_lt_zero x)]
      simp only [beq_iff_eq]
      split <;> split <;> omega
    · have e1 : (n + 1) / k = n / k := by
        rw [Nat.div_eq_iff hk]
        have : (n / k) * k = k * (n / k) := by rw [Nat.mul_comm]
        omega
      have e2 : (n + 1) % k = n % k + 1 := by
        have := Nat.div_add_mod (n + 1) k
        rw [e1] at this
        omega
      rw [e1, e2]
      simp only [beq_iff_eq]
      split <;> split <;> split <;> omega
theorem cnt_le (n k x : Nat) (hk : 0 < k) : n / k ≤ cnt n k x ∧ cnt n k x ≤ (n + k - 1) / k := by
  unfold cnt
  have h1 := Nat.div_add_mod n k
  have h2 := Nat.mod_lt n hk
  refine ⟨by omega, ?_⟩
  rw [Nat.le_div_iff_mul_le hk]
  split
  · have : (n / k + 1) * k = k * (n / k) + k := by rw [Nat.add_mul, Nat.mul_comm]; omega
    omega
  · have : (n / k + 0) * k = k * (n / k) := by rw [Nat.add_zero, Nat.mul_comm]
    omega
theorem folds_count (n k : Nat) (s : Int) (hn : 0 < n) (x : Nat) (hx : x < k) : (folds n k s).count x = cnt n k x := by
  rw [(folds_perm n k s hn).count_eq, count_range k x hx]
theorem folds_lt (n k : Nat) (s : Int) (hn : 0 < n) (hk : 0 < k) : ∀ x ∈ folds n k s, x < k := fun x hx => by
  have := (folds_perm n k s hn).mem_iff.1 hx
  simp only [List.mem_map] at this
  obtain ⟨i, _, rfl⟩ := this
  exact Nat.mod_lt _ hk
end Go.Proofs.YtccjmmdppjialaaGreatDoor
