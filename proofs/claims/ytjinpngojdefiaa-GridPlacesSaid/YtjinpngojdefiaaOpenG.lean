/- A draft of a grid that came in. -/
import Derived.Test.YtjinpngojdefiaaOpenL
namespace Go.Proofs.Ytjinpngojdefiaa
open Go.ChangeShapes Go.WideShapes Go.ChangeAt Go.RowKit Go.Lib
variable {H : Type} {enc : TypeId × Value → H} {w : World} {base : Nat} {spare : Nat → Bool} {held : Bool}
theorem open_draft {r : Reach} {b0 : Nat} {v : Value} {d : DataW H} {p : List MemPlace} (hv : Value.okWide Try.prog w r b0 28 v) (h : DataW.Trod enc Try.prog w base spare held 28 v d p) :
    ∃ A1 c1 zs o A2 c2 vs sm, v = .agg #[.slice A1 zs.length c1, .int .u8 o, .slice A2 vs.length c2, .bool sm] ∧ (0 ≤ o ∧ o ≤ 255) ∧ (∀ x ∈ zs, 0 ≤ x ∧ x ≤ 255) ∧ (∀ x ∈ vs, 0 ≤ x ∧ x ≤ 65535) ∧ zs.length ≤ 9223372036854775807 ∧ vs.length ≤ 9223372036854775807 ∧ Ls w .u8 A1 zs ∧ Ls w .u16 A2 vs := by
  obtain ⟨v0, v1, v2, v3, y0, y1, y2, y3, n, rfl, _, _, h0, h1, h2, h3⟩ := Go.Joins.open_agg4 Try.underlying28 (by kernel_rfl) (by kernel_rfl) hv h
  obtain ⟨A1, c1, zs, rfl, l1, w1, m1, _⟩ := open_list Try.underlying25 Try.underlying5 (by kernel_rfl) h0
  obtain ⟨o, rfl, wo⟩ := open_num Try.underlying5 h1
  obtain ⟨A2, c2, vs, rfl, l2, w2, m2, _⟩ := open_list Try.underlying26 Try.underlying60 (by kernel_rfl) h2
  obtain ⟨sm, rfl⟩ := open_flag Try.underlying4 h3
  exact ⟨A1, c1, zs, o, A2, c2, vs, sm, rfl, by simpa [Lit.wf, IntKind.min, IntKind.max, IntKind.signed, IntKind.bits] using wo, fun x hx => by simpa [Lit.wf, IntKind.min, IntKind.max, IntKind.signed, IntKind.bits] using w1 x hx,
    fun x hx => by simpa [Lit.wf, IntKind.min, IntKind.max, IntKind.signed, IntKind.bits] using w2 x hx, m1, m2, l1, l2⟩
end Go.Proofs.Ytjinpngojdefiaa
