/- Contracts of grids: the reference's At; lists that are equal. -/
import Derived.Test.YtjinpngojdefiaaGrO
import Derived.Test.YtjinpngojdefiaaGrH
namespace Go.Proofs.Ytjinpngojdefiaa
open Go.RowKit
set_option maxRecDepth 20000
set_option maxHeartbeats 3200000

theorem equal_any (A1 A2 : Option Addr) (c1 c2 : Nat) (l1 l2 : List Int) (w : World) (hl1 : l1.length ≤ 1000000) (hl2 : l2.length ≤ 1000000) (h1 : Ls w .i64 A1 l1) (h2 : Ls w .i64 A2 l2) :
    Calls Try.prog 16 #[.slice A1 l1.length c1, .slice A2 l2.length c2] w fun e w' => e = .returned (.bool (decide (l1 = l2))) ∧ Bl w w' := by
  by_cases hl : l1.length = l2.length
  · rcases Nat.eq_zero_or_pos l1.length with h0 | h0
    · have e1 := List.length_eq_zero_iff.1 h0
      have e2 := List.length_eq_zero_iff.1 (hl ▸ h0)
      subst e1 e2
      refine (Try.slices_Equal_int_empty A1 A2 c1 0 c2 w (by omega)).mono ?_
      rintro e w' ⟨rfl, rfl⟩
      exact ⟨by simp, Bl.refl _⟩
    · obtain ⟨b1, o1, rfl⟩ := h1.addr 0 h0
      obtain ⟨b2, o2, rfl⟩ := h2.addr 0 (by omega)
      refine (Try.slices_Equal_int b1 o1 l1.length c1 b2 o2 l2.length c2 l1 l2 w (Nat.le_refl _) (Nat.le_refl _) (by omega) (by omega) (fun j hj => by rw [List.getD_eq_getElem?_getD, List.getElem?_eq_getElem hj]; exact h1.at j hj) (fun j hj => by rw [List.getD_eq_getElem?_getD, List.getElem?_eq_getElem hj]; exact h2.at j hj)).mono ?_
      rintro e w' ⟨rfl, q, rfl⟩
      refine ⟨?_, (Bl.refl w).drewN q⟩
      rw [List.take_of_length_le (Nat.le_refl _), List.take_of_length_le (Nat.le_refl _)]
      congr 2
      by_cases he : l1 = l2 <;> simp [he]
  · refine (Try.slices_Equal_int_lens A1 A2 l1.length c1 l2.length c2 w hl).mono ?_
    rintro e w' ⟨rfl, rfl⟩
    refine ⟨?_, Bl.refl _⟩
    have : l1 ≠ l2 := fun e => hl (by rw [e])
    simp [this]
theorem refAt_any (As Ad Ai : Option Addr) (cs cd ci : Nat) (sl : List Int) (q : Int) (dl il : List Int) (w : World) (hl1 : sl.length ≤ 1000000) (hl2 : dl.length ≤ 1000000) (hl3 : il.length ≤ 1000000) (hcd : dl.length ≤ cd) (h1 : Ls w .i64 As sl) (h2 : Ls w .i64 Ad dl) (h3 : Ls w .i64 Ai il) :
    Calls Try.prog 23 #[.agg #[.slice As sl.length cs, .int .i64 q, .slice Ad dl.length cd], .slice Ai il.length ci] w (AtRes sl q dl il w) := by
  have R := fun w h1 h2 h3 => refPlace_any As Ad Ai cs cd ci sl q dl il w hl1 hl2 hl3 h1 h2 h3
  obtain ⟨n, hn⟩ : ∃ n, sl.length = n := ⟨_, rfl⟩
  obtain ⟨m, hm⟩ : ∃ m, dl.length = m := ⟨_, rfl⟩
  obtain ⟨k, hk⟩ : ∃ k, il.length = k := ⟨_, rfl⟩
  rw [hm] at hcd
  rw [hn, hm, hk] at R
  rw [hn, hm, hk]
  have b0 := Bl.new w (.cells #[.slice As n cs, .int .i64 q, .slice Ad m cd] 24)
  have x0 := c_new w #[.slice As n cs, .int .i64 q, .slice Ad m cd] 24 0
  have x1 := c_new w #[.slice As n cs, .int .i64 q, .slice Ad m cd] 24 1
  have x2 := c_new w #[.slice As n cs, .int .i64 q, .slice Ad m cd] 24 2
  simp only [List.getElem?_toArray, List.getElem?_cons_zero, List.getElem?_cons_succ] at x0 x1 x2
  have H1 := Lib.hid h1; have H2 := Lib.hid h2; have H3 := Lib.hid h3; have R := Lib.hid R; have HM := Lib.hid hm
  clear hn hm hk hl1 hl2 hl3 h1 h2 h3
  obtain ⟨i0, hi, hz0, hz1, hz2⟩ := info_parts info_int
  go_enter Try.func23, Try.ntmps23
  go_wp2_with fail
  generalize w.alloc (.cells #[.slice As n cs, .int .i64 q, .slice Ad m cd] 24) = w0 at b0 x0 x1 x2 ⊢
  refine (R.out _ (H1.out.keep b0) (H2.out.keep b0) (H3.out.keep b0)).mono ?_
  rintro e w1 ⟨p, c, rfl, hc, hb1⟩
  have B1 := Lib.hid (b0.trans hb1)
  have y0 := hb1.cell x0; have y1 := hb1.cell x1; have y2 := hb1.cell x2
  clear x0 x1 x2 b0 hb1
  rcases hc with ⟨hno, rfl, rfl⟩ | ⟨s, q', d, e1, rfl, e3, hg, ⟨ix, e4, hbe, rfl, rfl⟩ | ⟨hnx, rfl, rfl⟩⟩
  · have HX := Lib.hid hno
    clear hno y0 y1 y2
    go_wp2_with fail
    go_ret2
    exact ⟨none, 0, [], 100, rfl, .inl ⟨HX.out, rfl, rfl⟩, Ls.nil _ _ _, by simp, B1.out⟩
  · have HE := Lib.hid (And.intro e1 (And.intro e3 (And.intro hg (And.intro e4 hbe))))
    have hf := hg.fits hbe
    have hseg := seg_len d _ q' hf
    have hdm : d.length = m := by have := HM.out; rw [e3, ofN_len] at this; exact this
    have q1 : 1 ≤ (q' : Int) := by have := hg.q1; omega
    have q4 : (q' : Int) ≤ 4 := by have := hg.q4; omega
    have m4 : (m : Int) ≤ 4096 := by have := hg.most; omega
    obtain ⟨bd, od, rfl⟩ := Ls.of_grid hg (by rw [← e3]; exact H2.out)
    have hL := (H2.out.keep B1.out)
    rw [e3] at hL
    have hL2 := Lib.hid (hL.seg (Gr.plc s ix 0 * q') q' hf)
    obtain ⟨pp, hpp⟩ : ∃ pp, Gr.plc s ix 0 * q' = pp := ⟨_, rfl⟩
    obtain ⟨sg, hsg⟩ : ∃ sg, seg d (Gr.plc s ix 0 * q') q' = sg := ⟨_, rfl⟩
    rw [hpp, hdm] at hf
    have HSG := Lib.hid hsg
    rw [hsg] at hseg hL2
    rw [hpp] at hL2
    rw [hpp]
    have HSEG := Lib.hid hseg
    have hpm : (pp : Int) + (q' : Int) ≤ (m : Int) := by omega
    have hcd' : (m : Int) ≤ (cd : Int) := by omega
    have hne : ¬ cd = pp := by omega
    have ep : ((pp : Int) + (q' : Int)).toNat = pp + q' := by omega
    clear e1 e3 hg e4 hbe hdm hL hpp hsg hseg hf
    have hown0 : (w1.alloc (.cells #[] 3)).ownsRow w1.heap.size 3 1 (.slice (some ⟨w1.heap.size, 0, none⟩) 0 0) 0 [] := World.ownsRow_made (base := w1.heap.size) w1 #[] 0 (Nat.le_refl _) (by unfold maxLen; omega) rfl
    have hLc := hL2.out.keep (Bl.new w1 (.cells #[] 3))
    have z1 := (Bl.new w1 (.cells #[] 3)).cell y1
    have z2 := (Bl.new w1 (.cells #[] 3)).cell y2
    clear y0 y1 y2
    go_wp2_with (at_builtin; refine wpList_append_lies _ rfl _ _ 22 rfl w1.heap.size 3 i0 (.int .i64 0) 1 8 Try.underlying22 hi hz0 hz1 hz2 rfl (by decide) _ _ [] rfl hown0 ⟨bd, od + pp, none⟩ q' (cd - pp) (ints (ofN sg)) ?c8 ?c0 ?c1 ?c2 ?c6 ?c3 ?c4 ?c5 _ rfl ?_)
    case c8 => rfl
    case c0 => simp [ints, ofN_len, HSEG.out]
    case c1 =>
      intro j u hj
      have hj2 : j < (ofN sg).length := by
        have := (List.getElem?_eq_some_iff.1 hj).1
        simpa [ints] using this
      have hc := hLc.at j hj2
      have e1 : (⟨bd, od + pp, none⟩ : Addr).add j = ⟨bd, od + pp + j, none⟩ := by unfold Addr.add; split <;> simp_all
      rw [e1, hc, ← hj]
      simp [ints, hj2]
    case c2 =>
      intro u hu
      obtain ⟨x, _, rfl⟩ := List.mem_map.1 hu
      rfl
    case c6 => omega
    case c3 => unfold maxLen; omega
    case c4 => omega
    case c5 => simp
    intro g1 cap1 w8 hown' hgrow hat hlt1
    obtain ⟨g2, cap2, hv, hcap2, hg2, hrow⟩ := Rw.of_own hown' (by rw [ofN_len, HSEG.out]) (by omega)
    have hb8 : Bl w w8 := (B1.out.trans (Bl.new w1 (.cells #[] 3))).grown hgrow (by have := Below.size (B1.out.trans (Bl.new w1 (.cells #[] 3))); exact this) (fun k hk => by
      have : w1.heap.size = k := by simpa [Value.ownBlock] using hk
      have := Below.size B1.out
      omega)
    have HB8 := Lib.hid hb8
    have hgg : g1 = g2 := by
      have := Value.slice.inj hv
      have := this.1
      simpa using this
    subst hgg
    have HROW := Lib.hid hrow
    clear hv hcap2 hg2 hown' hgrow hat hlt1 hown0 hLc z1 z2 hb8 hrow
    go_wp2_with fail
    go_ret2
    exact ⟨_, cap1, ofN sg, 0, by rw [ofN_len, HSEG.out]; rfl, .inr ⟨s, q', d, HE.out.1, rfl, HE.out.2.1, HE.out.2.2.1, .inl ⟨ix, HE.out.2.2.2.1, HE.out.2.2.2.2, by rw [HSG.out], rfl⟩⟩, HROW.out.ls, by rw [ofN_len, HSEG.out]; omega, HB8.out⟩
  · have HE := Lib.hid (And.intro e1 (And.intro e3 (And.intro hg hnx)))
    clear e1 e3 hg hnx y0 y1 y2
    go_wp2_with fail
    go_ret2
    exact ⟨none, 0, [], 2, rfl, .inr ⟨s, q', d, HE.out.1, rfl, HE.out.2.1, HE.out.2.2.1, .inr ⟨HE.out.2.2.2, rfl, rfl⟩⟩, Ls.nil _ _ _, by simp, B1.out⟩
end Go.Proofs.Ytjinpngojdefiaa
