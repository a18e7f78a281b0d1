/- DigestTexts: the given statement, for every input. -/
import Derived.Test.YtajadhbbnahnjaaDoorCards
import Derived.Test.YtajadhbbnahnjaaDoorTie
import Derived.Test.YtajadhbbnahnjaaDoorLaid
import Derived.Test.YtajadhbbnahnjaaDoorGlb
import Derived.Test.YtajadhbbnahnjaaDoorHxM
import Derived.Test.YtajadhbbnahnjaaDoorClose
import Derived.OpenShut
import Derived.Test.YtajadhbbnahnjaaDoorOpenArr
import Derived.Test.YtajadhbbnahnjaaDoorDiWk
import Derived.LaidMore
import Derived.Lay
import Derived.LaidOnce
import Derived.SevenTiedAt
namespace Go.Proofs.YtajadhbbnahnjaaDoor.digestTexts
open Go.ChangeShapes Go.WideShapes Go.ChangeAt Go.RowKit
open Go.ChangeMaps (open_string shut_string)
open Ev

theorem own : ownKnob Tryd.prog.godebug = none := by kernel_rfl

set_option maxRecDepth 100000 in
theorem gl_of {W : World} (h : laidMetH Tryd.prog Rows.digestTextsRow.laid W) : GL G0 W := by
  rw [MakeChecks.laidMetH_plain _ _ _ (by kernel_rfl)] at h
  obtain ⟨t0, h0⟩ := table_of_laidD h (n := "verdigris/digest.constants") (g := 0) (t := 67) (d := Rows.laid_verdigris_digest_constants) (ds := [.int .u32 (.ofNat 3614090360), .int .u32 (.ofNat 3905402710), .int .u32 (.ofNat 606105819), .int .u32 (.ofNat 3250441966), .int .u32 (.ofNat 4118548399), .int .u32 (.ofNat 1200080426), .int .u32 (.ofNat 2821735955), .int .u32 (.ofNat 4249261313), .int .u32 (.ofNat 1770035416), .int .u32 (.ofNat 2336552879), .int .u32 (.ofNat 4294925233), .int .u32 (.ofNat 2304563134), .int .u32 (.ofNat 1804603682), .int .u32 (.ofNat 4254626195), .int .u32 (.ofNat 2792965006), .int .u32 (.ofNat 1236535329), .int .u32 (.ofNat 4129170786), .int .u32 (.ofNat 3225465664), .int .u32 (.ofNat 643717713), .int .u32 (.ofNat 3921069994), .int .u32 (.ofNat 3593408605), .int .u32 (.ofNat 38016083), .int .u32 (.ofNat 3634488961), .int .u32 (.ofNat 3889429448), .int .u32 (.ofNat 568446438), .int .u32 (.ofNat 3275163606), .int .u32 (.ofNat 4107603335), .int .u32 (.ofNat 1163531501), .int .u32 (.ofNat 2850285829), .int .u32 (.ofNat 4243563512), .int .u32 (.ofNat 1735328473), .int .u32 (.ofNat 2368359562), .int .u32 (.ofNat 4294588738), .int .u32 (.ofNat 2272392833), .int .u32 (.ofNat 1839030562), .int .u32 (.ofNat 4259657740), .int .u32 (.ofNat 2763975236), .int .u32 (.ofNat 1272893353), .int .u32 (.ofNat 4139469664), .int .u32 (.ofNat 3200236656), .int .u32 (.ofNat 681279174), .int .u32 (.ofNat 3936430074), .int .u32 (.ofNat 3572445317), .int .u32 (.ofNat 76029189), .int .u32 (.ofNat 3654602809), .int .u32 (.ofNat 3873151461), .int .u32 (.ofNat 530742520), .int .u32 (.ofNat 3299628645), .int .u32 (.ofNat 4096336452), .int .u32 (.ofNat 1126891415), .int .u32 (.ofNat 2878612391), .int .u32 (.ofNat 4237533241), .int .u32 (.ofNat 1700485571), .int .u32 (.ofNat 2399980690), .int .u32 (.ofNat 4293915773), .int .u32 (.ofNat 2240044497), .int .u32 (.ofNat 1873313359), .int .u32 (.ofNat 4264355552), .int .u32 (.ofNat 2734768916), .int .u32 (.ofNat 1309151649), .int .u32 (.ofNat 4149444226), .int .u32 (.ofNat 3174756917), .int .u32 (.ofNat 718787259), .int .u32 (.ofNat 3951481745)]) (by kernel_rfl) (by kernel_rfl) (by kernel_rfl) (by decide) (by simp [Rows.digestTextsRow])
  intro i cs hl
  simp only [G0, look_cons] at hl
  by_cases e0 : 0 = i
  · subst e0
    rw [if_pos rfl] at hl
    cases hl
    exact ⟨t0, _, h0, fun j v hv => by simpa using hv⟩
  rw [if_neg e0] at hl
  cases hl

set_option maxRecDepth 100000 in
theorem lifted (os : Os) (started : os.Started) (H : Type) (enc : TypeId × Value → H) :
    ReturnsInHanded {} Tryd.checked os 3 .any (fun w args => (Rows.digestTextsSpec.pre enc Tryd.prog Tryd.f3 [] false w args ∧ laidMetH Tryd.prog Rows.digestTextsRow.laid w) ∧ sizedMet enc Tryd.prog Tryd.f3 (OpenSpec.ofChange Rows.digestTextsSpec) false w args)
      (Rows.digestTextsSpec.post enc Tryd.prog Tryd.f3 false true false false) := by
  refine returnsInHanded_of_change_and (C := Tryd.checked) (X := fun w _ => laidMetH Tryd.prog Rows.digestTextsRow.laid w) (fun _ _ _ hh h => h.of_heap hh) own started (by kernel_rfl) Tryd.func3
    (ChangeSpec.witness_shaped (enc := enc) (C := Tryd.checked) (os := os) (X := fun w _ => laidMetH Tryd.prog Rows.digestTextsRow.laid w) false (World.laidAll Tryd.prog os Rows.digestTextsRow.laid) #[.agg #[.int .u8 0,.int .u8 0,.int .u8 0,.int .u8 0,.int .u8 0,.int .u8 0,.int .u8 0,.int .u8 0,.int .u8 0,.int .u8 0,.int .u8 0,.int .u8 0,.int .u8 0,.int .u8 0,.int .u8 0,.int .u8 0], .string ⟨#[]⟩, .int .u8 0, .int .u8 0] 8 (World.laidAll_os _ _ _)
      (World.shaped_of_ZipB (by kernel_rfl) (by kernel_rfl)) (by kernel_rfl) (by kernel_rfl) (by kernel_rfl)
      (by rw [MakeChecks.laidMetH_plain _ _ _ (by kernel_rfl)]; exact laidMet_laidAll _ (by kernel_rfl) (by kernel_rfl))) ?_
  intro W base args ds gs before hval0 hW _ _ hX hsized
  have hval : ∀ (j : Nat) t v, Tryd.f3.params[j]? = some t → args[j]? = some v → Value.okWide Tryd.prog W .any base t v := hval0
  have hW' := hW
  have hlt := fun x hx => DataW.Whole.lt hW (p := x) hx
  obtain ⟨p, q, hA0, hV, rfl, _, _⟩ := hW
  have hA : DataW.TrodAll enc Tryd.prog W 0 (fun _ => true) true Tryd.f3.params.toList args.toList ds p := hA0
  have hAk := hA
  rw [Tryd.params3] at hA hval
  obtain ⟨v0, vs0, d0, ds0, p0, q0, hargs, rfl, hp0, h0, r0⟩ := trodAll_cons hA
  obtain ⟨v1, vs1, d1, ds1, p1, q1, rfl, rfl, hp1, h1, r1⟩ := trodAll_cons r0
  obtain ⟨v2, vs2, d2, ds2, p2, q2, rfl, rfl, hp2, h2, r2⟩ := trodAll_cons r1
  obtain ⟨v3, vs3, d3, ds3, p3, q3, rfl, rfl, hp3, h3, r3⟩ := trodAll_cons r2
  obtain ⟨rfl, rfl, hp⟩ := trodAll_nil r3
  obtain rfl : args = #[v0, v1, v2, v3] := by cases args; simp_all
  obtain ⟨rfl, rfl⟩ := trodVars_none hV
  have k0 := hval 0 22 v0 rfl rfl
  obtain ⟨s1, rfl, rfl, _, hs1⟩ := open_string Tryd.underlying9 (hval 1 9 v1 rfl rfl) h1
  have m1 : s1.size ≤ 9223372036854775807 := by simpa [maxLen] using hs1
  obtain ⟨x2, rfl, rfl, _, w2⟩ := open_int Tryd.underlying5 (hval 2 5 v2 rfl rfl) h2
  have b2 : 0 ≤ x2 ∧ x2 ≤ 255 := by simpa [Lit.wf, IntKind.min, IntKind.max, IntKind.signed, IntKind.bits] using w2
  obtain ⟨x3, rfl, rfl, _, w3⟩ := open_int Tryd.underlying5 (hval 3 5 v3 rfl rfl) h3
  have b3 : 0 ≤ x3 ∧ x3 ≤ 255 := by simpa [Lit.wf, IntKind.min, IntKind.max, IntKind.signed, IntKind.bits] using w3
  obtain ⟨l0, rfl, hl0, hw0⟩ := open_arr Tryd.underlying22 Tryd.underlying5 (by kernel_rfl) (by kernel_rfl) k0 h0
  simp only [List.append_nil] at hW' hlt
  refine (texts_ints l0 hl0 hw0 s1 m1 x2 x3 b2 b3 W (fun v hv => Ev.known v ((gl_of hX).below hv))).mono fun e W' ⟨he, hb⟩ => ?_
  subst he
  exact ⟨_, rfl, _, _, _, [], p, [], hW', trodAll_cons_mk (shut_bool Tryd.underlying4 _) trodAll_mk0, trodAll_below laidOut hb (by kernel_rfl) hAk hlt, rfl, hb.frame _, fun h => by cases h⟩

theorem said : Rows.DigestTextsSaid :=
  OpenClaim.holds_of_wide 3 Tryd.f3 rfl rfl rfl rfl rfl rfl rfl ⟨rfl, rfl, rfl, rfl, rfl⟩ rfl rfl rfl rfl rfl (by kernel_rfl) Tryd.func3 (by kernel_rfl)
    (of_decide_eq_true (by kernel_rfl)) (by unfold Func.isWrapper; first | (rw [if_pos (by decide +kernel)]; kernel_rfl) | (rw [if_neg (by decide +kernel)]; exact ⟨rfl, rfl⟩))
    (fun os started H enc _ => lifted os started H enc)

theorem plain (f : FuncId) (fn : Func) (hf : Tryd.pinned.checked.prog.funcNamed "verdigris/verdigrislaw08.DigestTexts" = some f) (hfn : Tryd.pinned.checked.prog.funcs[f]? = some fn) :
    false = Tryd.pinned.checked.prog.looks [] ∧ ∀ (j : Nat) t, fn.params[j]? = some t → Tryd.pinned.checked.prog.wantsStandIn t = false := by
  obtain rfl : f = 3 := Option.some.inj ((show Tryd.prog.funcNamed "verdigris/verdigrislaw08.DigestTexts" = some 3 by kernel_rfl).symm.trans hf) |>.symm
  obtain rfl : fn = Tryd.f3 := (Option.some.inj (Tryd.func3.symm.trans hfn)).symm
  refine ⟨by kernel_rfl, fun j t ht => ?_⟩
  rw [Tryd.params3] at ht
  have hm : t ∈ [22, 9, 5, 5] := by simpa using Array.mem_of_getElem? ht
  have hall : ([22, 9, 5, 5].all fun u => !Tryd.prog.wantsStandIn u) = true := by kernel_rfl
  exact (show Tryd.prog.wantsStandIn t = false by simpa using List.all_eq_true.1 hall t hm)

theorem holds : Rows.DigestTextsCardSaid :=
  Claim7.holds_tied_plain_at .later [] _ _ _ _ said (fun _ h => by cases h) (by kernel_rfl) (fun _ h => by cases h) digestTexts_row_tie rfl ⟨rfl, rfl⟩ (by kernel_rfl) rfl plain (by kernel_rfl)
#print axioms holds
end Go.Proofs.YtajadhbbnahnjaaDoor.digestTexts
