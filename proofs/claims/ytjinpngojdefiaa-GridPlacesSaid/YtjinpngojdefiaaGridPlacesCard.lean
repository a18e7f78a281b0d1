/- GridPlaces: the given statement, for every input. -/
import Derived.Test.YtjinpngojdefiaaRows
import Derived.Test.YtjinpngojdefiaaGrT
import Derived.Test.YtjinpngojdefiaaClose
import Derived.OpenShut
import Derived.Test.YtjinpngojdefiaaOpenP
import Derived.Test.YtjinpngojdefiaaGrwk
namespace Go.Proofs.Ytjinpngojdefiaa.gridPlaces
open Go.ChangeShapes Go.WideShapes Go.ChangeAt Go.RowKit
open Go.ChangeMaps (open_string shut_string)
open Ev

theorem own : ownKnob Try.prog.godebug = none := by kernel_rfl

set_option maxRecDepth 100000 in
theorem lifted (os : Os) (started : os.Started) (H : Type) (enc : TypeId × Value → H) :
    ReturnsInHanded {} Try.checked os 4 .any (Rows.gridPlacesSpec.pre6 enc Try.prog Try.f4 [] false)
      (Rows.gridPlacesSpec.post enc Try.prog Try.f4 false true false false) := by
  refine returnsInHanded_of_change (C := Try.checked) own started (by kernel_rfl) Try.func4
    (ChangeSpec.witness6 (enc := enc) (C := Try.checked) (os := os) false ⟨#[], #[.agg #[.slice none 0 0, .int .i64 0, .slice none 0 0], .agg #[.slice none 0 0, .int .u8 0, .slice none 0 0, .bool false], .agg #[.int .u8 0, .int .u8 0, .int .i64 0, .int .u8 0, .int .u8 0, .int .i64 0], .slice none 0 0, .agg #[.int .u8 0, .int .u8 0, .int .u8 0, .int .u8 0]], []⟩ 8 (by kernel_rfl) (by kernel_rfl) (by kernel_rfl) (by kernel_rfl)) ?_
  intro W base args ds gs before hval0 hW _ hsized
  have hval : ∀ (j : Nat) t v, Try.f4.params[j]? = some t → args[j]? = some v → Value.okWide Try.prog W .any base t v := hval0
  have hW' := hW
  have hlt := fun x hx => DataW.Whole.lt hW (p := x) hx
  obtain ⟨p, q, hA0, hV, rfl, _, _⟩ := hW
  have hA : DataW.TrodAll enc Try.prog W 0 (fun _ => true) true Try.f4.params.toList args.toList ds p := hA0
  have hAk := hA
  rw [Try.params4] at hA hval
  obtain ⟨v0, vs0, d0, ds0, p0, q0, hargs, rfl, hp0, h0, r0⟩ := trodAll_cons hA
  obtain ⟨v1, vs1, d1, ds1, p1, q1, rfl, rfl, hp1, h1, r1⟩ := trodAll_cons r0
  obtain ⟨v2, vs2, d2, ds2, p2, q2, rfl, rfl, hp2, h2, r2⟩ := trodAll_cons r1
  obtain ⟨v3, vs3, d3, ds3, p3, q3, rfl, rfl, hp3, h3, r3⟩ := trodAll_cons r2
  obtain ⟨v4, vs4, d4, ds4, p4, q4, rfl, rfl, hp4, h4, r4⟩ := trodAll_cons r3
  obtain ⟨rfl, rfl, hp⟩ := trodAll_nil r4
  obtain rfl : args = #[v0, v1, v2, v3, v4] := by cases args; simp_all
  obtain ⟨rfl, rfl⟩ := trodVars_none hV
  have k0 := hval 0 24 v0 rfl rfl
  have k1 := hval 1 28 v1 rfl rfl
  have k2 := hval 2 31 v2 rfl rfl
  have k3 := hval 3 22 v3 rfl rfl
  have k4 := hval 4 42 v4 rfl rfl
  obtain ⟨Ar, cr, rl, qr, Br, dr, rm, rfl, ⟨hr1, hr2, hc1, hc2⟩, hqr, hg1, hg2⟩ := open_grid k0 h0
  obtain ⟨A1, c1, zs, o, A2, c2, vs, sm, rfl, ho, hzs, hvs, hl1, hl2, hls1, hls2⟩ := open_draft k1 h1
  obtain ⟨a0, e0, N0, a1, e1, N1, rfl, ha0, he0, hN0, ha1, he1, hN1⟩ := open_bends k2 h2
  obtain ⟨Ai, ci, il, rfl, hi1, hic, hil⟩ := open_row_arg k3 h3
  obtain ⟨ns, rfl, hns, hnw⟩ := open_arr Try.underlying42 Try.underlying5 (by kernel_rfl) (by kernel_rfl) k4 h4
  obtain ⟨n0, n1, n2, n3, rfl⟩ := list_four ns hns
  have hnb : ∀ x ∈ [n0, n1, n2, n3], 0 ≤ x ∧ x ≤ 255 := fun x hx => by simpa [Lit.wf, IntKind.min, IntKind.max, IntKind.signed, IntKind.bits] using hnw x hx
  simp only [List.append_nil] at hW' hlt
  refine (places_walk Ar cr rl qr Br dr rm A1 c1 zs o A2 c2 vs sm a0 e0 N0 a1 e1 N1 Ai ci il n0 n1 n2 n3 W hr1 hr2 hc1 hc2 hqr hg1 hg2 ho hzs hvs hl1 hl2 hls1 hls2 ha0 he0 hN0 ha1 he1 hN1 hi1 hic hil (hnb _ (by simp)) (hnb _ (by simp)) (hnb _ (by simp)) (hnb _ (by simp)) (fun v _ => Ev.known v (fun i cs h => by cases h))).mono fun e W' ⟨he, hb⟩ => ?_
  subst he
  exact ⟨_, rfl, _, _, _, [], p, [], hW', trodAll_cons_mk (shut_bool Try.underlying4 _) trodAll_mk0, trodAll_below laidOut hb (by kernel_rfl) hAk hlt, rfl, hb.frame _, fun h => by cases h⟩

theorem andT {a b : Bool} (h : a = true) (k : b = true) : (a && b) = true := by rw [h, k]; rfl
set_option maxHeartbeats 40000000 in
set_option maxRecDepth 100000 in
theorem closed : joinedFacts Try.pinned.checked.prog 4 Try.f4 Rows.gridPlacesSpec Rows.gridPlacesRow = true := by
  unfold joinedFacts
  repeat' with_reducible apply andT
  all_goals (as_aux_lemma => kernel_rfl)
theorem said : Rows.GridPlacesSaid :=
  OpenClaim.holds_of_wide 4 Try.f4 rfl rfl rfl rfl rfl rfl rfl ⟨rfl, rfl, rfl, rfl, rfl⟩ rfl rfl rfl rfl rfl (by kernel_rfl) Try.func4 closed
    (of_decide_eq_true (by kernel_rfl)) (by unfold Func.isWrapper; first | (rw [if_pos (by decide +kernel)]; kernel_rfl) | (rw [if_neg (by decide +kernel)]; exact ⟨rfl, rfl⟩))
    (fun os started H enc _ => lifted os started H enc)

#print axioms said
end Go.Proofs.Ytjinpngojdefiaa.gridPlaces
