/- What GridPlaces takes: a grid, two changes, a list. -/
import Derived.Test.YtjinpngojdefiaaOpenG
import Derived.Test.YtjinpngojdefiaaOpenArq
import Derived.Deep.Strs
namespace Go.Proofs.Ytjinpngojdefiaa
open Go.ChangeShapes Go.WideShapes Go.ChangeAt Go.RowKit Go.Lib
variable {H : Type} {enc : TypeId × Value → H} {w : World} {base : Nat} {spare : Nat → Bool} {held : Bool}
theorem open_grid {r : Reach} {b0 : Nat} {v : Value} {d : DataW H} {p : List MemPlace} (hv : Value.okWide Try.prog w r b0 24 v) (h : DataW.Trod enc Try.prog w base spare held 24 v d p) :
    ∃ A c l q B e m, v = .agg #[.slice A l.length c, .int .i64 q, .slice B m.length e] ∧ (l.length ≤ 9223372036854775807 ∧ m.length ≤ 9223372036854775807 ∧ l.length ≤ c ∧ m.length ≤ e) ∧ (-9223372036854775808 ≤ q ∧ q ≤ 9223372036854775807) ∧ Ls w .i64 A l ∧ Ls w .i64 B m := by
  obtain ⟨v0, v1, v2, y0, y1, y2, n, rfl, _, _, h0, h1, h2⟩ := Go.Joins.open_agg3 Try.underlying24 (by kernel_rfl) (by kernel_rfl) hv h
  obtain ⟨A, c, l, rfl, l1, w1, m1, c1⟩ := open_list Try.underlying22 Try.underlying3 (by kernel_rfl) h0
  obtain ⟨q, rfl, wo⟩ := open_num Try.underlying3 h1
  obtain ⟨B, e, m, rfl, l2, w2, m2, c2⟩ := open_list Try.underlying22 Try.underlying3 (by kernel_rfl) h2
  exact ⟨A, c, l, q, B, e, m, rfl, ⟨m1, m2, c1, c2⟩, by simpa [Lit.wf, IntKind.min, IntKind.max, IntKind.signed, IntKind.bits] using wo, l1, l2⟩
theorem open_bend {n : Nat} {c0 c1 c2 : Value} {y : DataW H × List MemPlace} (h : DataW.trod enc Try.prog w base spare held n 30 [c0, c1, c2] = some y) :
    ∃ a b N, c0 = .int .u8 a ∧ c1 = .int .u8 b ∧ c2 = .int .i64 N ∧ (0 ≤ a ∧ a ≤ 255) ∧ (0 ≤ b ∧ b ≤ 255) ∧ (-9223372036854775808 ≤ N ∧ N ≤ 9223372036854775807) := by
  obtain ⟨y0, y1, y2, n', _, _, h0, h1, h2⟩ := Go.Deep.trod_struct3 Try.underlying30 h
  obtain ⟨a, ea, wa⟩ := open_num (c := c0) Try.underlying5 h0
  obtain ⟨b, eb, wb⟩ := open_num (c := c1) Try.underlying5 h1
  obtain ⟨N, eN, wN⟩ := open_num (c := c2) Try.underlying3 h2
  exact ⟨a, b, N, ea, eb, eN, by simpa [Lit.wf, IntKind.min, IntKind.max, IntKind.signed, IntKind.bits] using wa, by simpa [Lit.wf, IntKind.min, IntKind.max, IntKind.signed, IntKind.bits] using wb, by simpa [Lit.wf, IntKind.min, IntKind.max, IntKind.signed, IntKind.bits] using wN⟩
theorem list_six {α : Type} (l : List α) (h : l.length = 6) : ∃ a b c d e f, l = [a, b, c, d, e, f] := by
  match l, h with
  | [a, b, c, d, e, f], _ => exact ⟨a, b, c, d, e, f, rfl⟩
theorem open_bends {r : Reach} {b0 : Nat} {v : Value} {d : DataW H} {p : List MemPlace} (hv : Value.okWide Try.prog w r b0 31 v) (h : DataW.Trod enc Try.prog w base spare held 31 v d p) :
    ∃ a0 c0 N0 a1 c1 N1, v = .agg #[.int .u8 a0, .int .u8 c0, .int .i64 N0, .int .u8 a1, .int .u8 c1, .int .i64 N1] ∧ (0 ≤ a0 ∧ a0 ≤ 255) ∧ (0 ≤ c0 ∧ c0 ≤ 255) ∧ (-9223372036854775808 ≤ N0 ∧ N0 ≤ 9223372036854775807) ∧ (0 ≤ a1 ∧ a1 ≤ 255) ∧ (0 ≤ c1 ∧ c1 ≤ 255) ∧ (-9223372036854775808 ≤ N1 ∧ N1 ≤ 9223372036854775807) := by
  obtain ⟨cs, rfl, hs⟩ := okWide_array Try.underlying31 hv
  have h6 : (Try.prog.cellsOf 31) = 6 := by kernel_rfl
  have h3 : (Try.prog.cellsOf 30) = 3 := by kernel_rfl
  obtain ⟨cs⟩ := cs
  obtain ⟨x0, x1, x2, x3, x4, x5, rfl⟩ := list_six cs (by have : cs.length = _ := hs; rw [h6] at this; exact this)
  obtain ⟨fuel, hf0⟩ := h
  have hf : DataW.trod enc Try.prog w base spare held fuel 31 [x0, x1, x2, x3, x4, x5] = some (d, p) := hf0
  obtain ⟨xs, m, _, _, _, hlen, hall⟩ := DataW.trod_array Try.underlying31 hf
  have g0 := hall 0 (by decide)
  have g1 := hall 1 (by decide)
  rw [h3] at g0 g1
  obtain ⟨z0, hz0⟩ : ∃ z, xs[0]? = some z := ⟨_, List.getElem?_eq_getElem (by omega)⟩
  obtain ⟨z1, hz1⟩ : ∃ z, xs[1]? = some z := ⟨_, List.getElem?_eq_getElem (by omega)⟩
  rw [hz0] at g0
  rw [hz1] at g1
  obtain ⟨a0, c0, N0, rfl, rfl, rfl, k1, k2, k3⟩ := open_bend (c0 := x0) (c1 := x1) (c2 := x2) g0
  obtain ⟨a1, c1, N1, rfl, rfl, rfl, k4, k5, k6⟩ := open_bend (c0 := x3) (c1 := x4) (c2 := x5) g1
  exact ⟨a0, c0, N0, a1, c1, N1, rfl, k1, k2, k3, k4, k5, k6⟩
theorem open_row_arg {r : Reach} {b0 : Nat} {v : Value} {d : DataW H} {p : List MemPlace} (hv : Value.okWide Try.prog w r b0 22 v) (h : DataW.Trod enc Try.prog w base spare held 22 v d p) :
    ∃ A c l, v = .slice A l.length c ∧ l.length ≤ 9223372036854775807 ∧ l.length ≤ c ∧ Ls w .i64 A l := by
  obtain ⟨fuel, hf⟩ := h
  obtain ⟨A, n, c, rfl⟩ := okWide_slice Try.underlying22 hv
  obtain ⟨A', c', l, e, l1, w1, m1, k1⟩ := open_list (c := .slice A n c) Try.underlying22 Try.underlying3 (by kernel_rfl) hf
  exact ⟨A', c', l, e, m1, k1, l1⟩
end Go.Proofs.Ytjinpngojdefiaa
