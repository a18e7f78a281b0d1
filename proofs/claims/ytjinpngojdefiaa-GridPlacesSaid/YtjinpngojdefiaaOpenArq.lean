/- An array of integers that came in: its cells are integers of its kind. -/
import Derived.Test.YtjinpngojdefiaaProg
import Derived.ProofKit
import Derived.OpenShut
import Derived.Laws.IdiomArrays
import Derived.ChangeArms
namespace Go.Proofs.Ytjinpngojdefiaa
open Go.ChangeShapes Go.WideShapes Go.ChangeAt Go.RowKit
variable {H : Type} {enc : TypeId × Value → H} {P : Program} {w : World} {base : Nat} {spare : Nat → Bool} {held : Bool}

theorem mapM_some {α β : Type} (f : α → Option β) : ∀ (l : List α) (ys : List β), l.mapM f = some ys → ∀ a ∈ l, ∃ y, f a = some y
  | [], _, _, a, ha => by cases ha
  | b :: l, ys, h, a, ha => by
    rw [List.mapM_cons] at h
    cases hb : f b with
    | none => simp [hb] at h
    | some y =>
      cases hl : l.mapM f with
      | none => simp [hb, hl] at h
      | some zs =>
        rcases List.mem_cons.1 ha with rfl | ha
        · exact ⟨y, hb⟩
        · exact mapM_some f l zs hl a ha
theorem ints_of : ∀ (cs : List Value) (k : IntKind), (∀ i (h : i < cs.length), ∃ n : Int, cs[i] = .int k n ∧ (Lit.int k n).wf = true) → ∃ xs : List Int, cs = xs.map (Value.int k) ∧ ∀ x ∈ xs, (Lit.int k x).wf = true
  | [], _, _ => ⟨[], rfl, fun _ h => by cases h⟩
  | c :: cs, k, h => by
    obtain ⟨n, hn, hw⟩ := h 0 (by simp)
    obtain ⟨xs, hx, hxs⟩ := ints_of cs k fun i hi => h (i + 1) (Nat.succ_lt_succ hi)
    exact ⟨n :: xs, by simp at hn; simp [hn, hx], fun x hx' => by
      rcases List.mem_cons.1 hx' with rfl | hx'
      · exact hw
      · exact hxs x hx'⟩
theorem okWide_array {t e : TypeId} {n : Nat} {r : Reach} {b0 : Nat} {v : Value} (ht : P.underlying t = some (.array n e)) (hv : Value.okWide P w r b0 t v) : ∃ cs, v = .agg cs ∧ cs.size = P.cellsOf t := by
  have : ∃ cs, v = .agg cs ∧ cs.size = P.cellsOf t ∧ Row.okWide P w r b0 t cs := by simpa [Value.okWide, ht] using hv
  obtain ⟨cs, h1, h2, _⟩ := this
  exact ⟨cs, h1, h2⟩
theorem open_arr {t e : TypeId} {n : Nat} {k : IntKind} {r : Reach} {b0 : Nat} {v : Value} {d : DataW H} {p : List MemPlace} (ht : P.underlying t = some (.array n e)) (he : P.underlying e = some (.int k)) (hce : P.cellsOf e = 1) (hC : P.cellsOf t = n)
    (hv : Value.okWide P w r b0 t v) (h : DataW.Trod enc P w base spare held t v d p) : ∃ xs : List Int, v = .agg (xs.map (Value.int k)).toArray ∧ xs.length = n ∧ ∀ x ∈ xs, (Lit.int k x).wf = true := by
  obtain ⟨cs, rfl, hs⟩ := okWide_array ht hv
  obtain ⟨cs⟩ := cs
  obtain ⟨fuel, hf0⟩ := h
  have hf : DataW.trod enc P w base spare held fuel t cs = some (d, p) := hf0
  clear hf0
  cases fuel with
  | zero => simp [DataW.trod] at hf
  | succ m =>
    unfold DataW.trod at hf
    rw [ht] at hf
    dsimp only at hf
    by_cases hlen : cs.length = P.cellsOf t
    case neg => rw [if_neg hlen] at hf; cases hf
    rw [if_pos hlen] at hf
    rw [hC] at hlen
    cases hm : (List.range n).mapM (fun i => DataW.trod enc P w base spare held m e ((cs.drop (i * P.cellsOf e)).take (P.cellsOf e))) with
    | none => simp [hm] at hf
    | some ys =>
      have hall := mapM_some _ _ _ hm
      obtain ⟨xs, hx, hw⟩ := ints_of cs k fun i hi => by
        obtain ⟨y, hy⟩ := hall i (List.mem_range.2 (by have : cs.length = n := hlen; omega))
        rw [hce, Nat.mul_one] at hy
        have e1 : (cs.drop i).take 1 = [cs[i]] := by rw [List.drop_eq_getElem_cons hi]; rfl
        rw [e1] at hy
        obtain ⟨q, hq, _, hwf⟩ := DataW.trod_int he hy
        simp only [List.cons.injEq, and_true] at hq
        exact ⟨q, hq, hwf⟩
      exact ⟨xs, by rw [hx], by have : cs.length = n := hlen; rw [hx] at this; simpa using this, hw⟩
end Go.Proofs.Ytjinpngojdefiaa
