/- Arguments that came in: lists of integers, booleans, structs of such. -/
import Derived.Test.YtjinpngojdefiaaGrU
import Derived.ProofKit
import Derived.OpenShut
import Derived.ChangeArms
import Derived.ChangeSlices
import Derived.Lib.SmallJoins
namespace Go.Proofs.Ytjinpngojdefiaa
open Go.ChangeShapes Go.WideShapes Go.ChangeAt Go.RowKit Go.Lib
variable {H : Type} {enc : TypeId × Value → H} {P : Program} {w : World} {base : Nat} {spare : Nat → Bool} {held : Bool}

/-- A slice of integers that came in. -/
theorem open_list {t e : TypeId} {k : IntKind} {n : Nat} {c : Value} {y : DataW H × List MemPlace} (ht : P.underlying t = some (.slice e)) (he : P.underlying e = some (.int k)) (hc : P.cellsOf e = 1)
    (h : DataW.trod enc P w base spare held n t [c] = some y) : ∃ A cap l, c = .slice A l.length cap ∧ Ls w k A l ∧ (∀ x ∈ l, (Lit.int k x).wf = true) ∧ l.length ≤ 9223372036854775807 ∧ l.length ≤ cap := by
  rcases open_ints ht he hc h with ⟨h1, _⟩ | ⟨a, len, cap, zs, h1, _, hl, hm, hz, _, hcell, hwf⟩
  · obtain rfl : c = .slice none 0 0 := by simpa using h1
    exact ⟨none, 0, [], rfl, Ls.nil _ _ _, fun x hx => by simp at hx, by simp, Nat.le_refl _⟩
  · obtain rfl : c = .slice (some a) len cap := by simpa using h1
    have hlen : len ≤ zs.length := by rw [hz]; split <;> omega
    have hl' : (zs.take len).length = len := by simp; omega
    refine ⟨some a, cap, zs.take len, by rw [hl'], fun h0 => ?_, fun x hx => hwf x (List.mem_of_mem_take hx), by rw [hl']; unfold maxLen at hm; omega, by rw [hl']; exact hl⟩
    rw [hl'] at h0
    have hc0 := hcell 0 (by omega)
    obtain ⟨b, o, spot⟩ := a
    have hspot : spot = none := by simpa [Addr.add] using World.cell?_spot hc0
    subst hspot
    refine ⟨b, o, rfl, fun j hj => ?_⟩
    rw [hl'] at hj
    have hcj := hcell j (by omega)
    have ea : (⟨b, o, none⟩ : Addr).add j = ⟨b, o + j, none⟩ := by unfold Addr.add; split <;> simp_all
    rw [ea] at hcj
    rw [hcj]
    simp [List.getD_eq_getElem?_getD, show j < zs.length by omega]
/-- A boolean that came in as a field. -/
theorem open_flag {t : TypeId} {n : Nat} {c : Value} {y : DataW H × List MemPlace} (ht : P.underlying t = some .bool) (h : DataW.trod enc P w base spare held n t [c] = some y) : ∃ b, c = .bool b := by
  cases n with
  | zero => simp [DataW.trod] at h
  | succ n =>
    unfold DataW.trod at h
    rw [ht] at h
    cases c <;> simp_all
theorem open_num {t : TypeId} {k : IntKind} {n : Nat} {c : Value} {y : DataW H × List MemPlace} (ht : P.underlying t = some (.int k)) (h : DataW.trod enc P w base spare held n t [c] = some y) : ∃ x, c = .int k x ∧ (Lit.int k x).wf = true := by
  obtain ⟨q, hq, _, hwf⟩ := DataW.trod_int ht h
  exact ⟨q, by simpa using hq, hwf⟩
end Go.Proofs.Ytjinpngojdefiaa
