/- Two arrays of integers, compared. -/
import Derived.Test.YtajadhbbnahnjaaDoorProg
import Derived.ChangeKeysEq
import Derived.WalkKit
import Derived.KernelRfl
namespace Go.Proofs.YtajadhbbnahnjaaDoor
open Go.RowKit

theorem eqItems_ints {P : Program} {e : TypeId} {k : IntKind} (he : P.underlying e = some (.int k)) (d : Nat) (xs ys : List Int) (W : World) : ∀ is : List Nat, (∀ i ∈ is, i < xs.length ∧ i < ys.length) →
    (Op.eqItems (d + 1) e 1 (xs.map (Value.int k)).toArray (ys.map (Value.int k)).toArray is).run P W = .ok (is.all fun i => xs.getD i 0 == ys.getD i 0) W
  | [], _ => by simp [Op.eqItems]
  | i :: is, h => by
    have hi := h i (List.mem_cons_self ..)
    have ih := eqItems_ints he d xs ys W is fun j hj => h j (List.mem_cons_of_mem _ hj)
    have hp : P.plainKey e = true := by simp [Program.plainKey, he]
    have hx : (xs.map (Value.int k)).toArray[i * 1]? = some (.int k (xs.getD i 0)) := by
      rw [Nat.mul_one, List.getElem?_toArray, List.getElem?_map, List.getElem?_eq_getElem hi.1]
      simp [List.getD, List.getElem?_eq_getElem hi.1]
    have hy : (ys.map (Value.int k)).toArray[i * 1]? = some (.int k (ys.getD i 0)) := by
      rw [Nat.mul_one, List.getElem?_toArray, List.getElem?_map, List.getElem?_eq_getElem hi.2]
      simp [List.getD, List.getElem?_eq_getElem hi.2]
    simp only [Op.eqItems, Sem.run_bind, run_part_plain W hp hx, run_part_plain W hp hy, Result.andThen_ok, run_equalIn_int W d e k k _ _ he, List.all_cons]
    cases hb : (xs.getD i 0 == ys.getD i 0)
    · simp
    · simpa using ih
theorem all_range (xs ys : List Int) (n : Nat) (hx : xs.length = n) (hy : ys.length = n) : ((List.range n).all fun i => xs.getD i 0 == ys.getD i 0) = decide (xs = ys) := by
  rw [Bool.eq_iff_iff, List.all_eq_true, decide_eq_true_eq]
  constructor
  · intro h
    apply List.ext_getElem (by omega)
    intro i h1 h2
    have := h i (List.mem_range.2 (by omega))
    simpa [List.getD, List.getElem?_eq_getElem h1, List.getElem?_eq_getElem h2] using this
  · rintro rfl i _
    simp
/-- Arrays of integers: equal if all their elements are. -/
theorem run_eq_ints {P : Program} {t e : TypeId} {k : IntKind} {n : Nat} (ht : P.underlying t = some (.array n e)) (he : P.underlying e = some (.int k)) (hc : P.cellsOf e = 1) (xs ys : List Int) (hx : xs.length = n) (hy : ys.length = n) (W : World) :
    (Op.equalIn 10000 t (.agg (xs.map (Value.int k)).toArray) (.agg (ys.map (Value.int k)).toArray)).run P W = .ok (decide (xs = ys)) W := by
  obtain ⟨i, hi⟩ := info_of_underlying he
  rw [run_equalIn_array W 9999 _ _ ht hi, hc, eqItems_ints he 9998 xs ys W _ (fun j hj => by have := List.mem_range.1 hj; omega), all_range xs ys n hx hy]
theorem run_eq4 {P : Program} {t e : TypeId} {k : IntKind} (ht : P.underlying t = some (.array 4 e)) (he : P.underlying e = some (.int k)) (hc : P.cellsOf e = 1) (a b c d a' b' c' d' : Int) (W : World) :
    (Op.equalIn 10000 t (.agg #[.int k a, .int k b, .int k c, .int k d]) (.agg #[.int k a', .int k b', .int k c', .int k d'])).run P W = .ok (decide (a = a' ∧ b = b' ∧ c = c' ∧ d = d')) W := by
  have := run_eq_ints ht he hc [a, b, c, d] [a', b', c', d'] rfl rfl W
  simpa using this
end Go.Proofs.YtajadhbbnahnjaaDoor
