/- Contracts of grids: the reference's place, Place and At. -/
import Derived.Test.YtjinpngojdefiaaGrN
namespace Go.Proofs.Ytjinpngojdefiaa
open Go.RowKit
set_option maxRecDepth 20000
set_option maxHeartbeats 3200000

/-- What the reference's place answers, of a valid grid. -/
def RplRes (s : List Nat) (q : Nat) (il : List Int) (w : World) (e : Ending) (w' : World) : Prop := ((∃ ix, il = ofN ix ∧ Gr.below ix s ∧ e = .returned (.tuple #[.int .i64 ((Gr.plc s ix 0 * q : Nat) : Int), .bool true])) ∨ (¬ isIx s il ∧ e = .returned (.tuple #[.int .i64 0, .bool false]))) ∧ Bl w w'
theorem refplace_any (As Ad Ai : Option Addr) (cs cd m ci : Nat) (s : List Nat) (q : Nat) (il : List Int) (w : World) (hs : Sz s) (hq : q ≤ 4) (hil : il.length ≤ 1000000) (h1 : Ls w .i64 As (ofN s)) (h2 : Ls w .i64 Ai il) :
    Calls Try.prog 42 #[.agg #[.slice As s.length cs, .int .i64 (q : Int), .slice Ad m cd], .slice Ai il.length ci] w (RplRes s q il w) := by
  have HS := Lib.hid hs
  obtain ⟨n, hn⟩ : ∃ n, s.length = n := ⟨_, rfl⟩
  obtain ⟨k0, hk0⟩ : ∃ k, il.length = k := ⟨_, rfl⟩
  have n4 : (n : Int) ≤ 4 := by have := hs.1; omega
  have k6 : (k0 : Int) ≤ 1000000 := by omega
  have q4 : (q : Int) ≤ 4 := by omega
  have HN := Lib.hid hn; have HL := Lib.hid hk0
  rw [hn, hk0]
  clear hn hk0 hs hil
  have hb := Bl.new w (.cells #[.slice As n cs, .int .i64 (q : Int), .slice Ad m cd] 24)
  have x0 := c_new w #[.slice As n cs, .int .i64 (q : Int), .slice Ad m cd] 24 0
  have x1 := c_new w #[.slice As n cs, .int .i64 (q : Int), .slice Ad m cd] 24 1
  simp only [List.getElem?_toArray, List.getElem?_cons_zero, List.getElem?_cons_succ] at x0 x1
  have H1 := Lib.hid (h1.keep hb); have H2 := Lib.hid (h2.keep hb)
  clear h1 h2
  by_cases hkn : k0 = n
  case neg =>
    have HX := Lib.hid (show ¬ isIx s il from fun h => hkn (by have := ((isIx_iff s il).1 h).1; rw [HL.out, HN.out] at this; exact this))
    have hne : ((k0 : Int) == (n : Int)) = false := by rw [beq_eq_false_iff_ne]; omega
    have hne' : ((k0 : Int) != (n : Int)) = true := by rw [bne_iff_ne]; omega
    clear hkn
    go_enter Try.func42, Try.ntmps42
    go_wp2_with fail
    go_ret2
    exact ⟨.inr ⟨HX.out, rfl⟩, hb⟩
  subst hkn
  go_enter Try.func42, Try.ntmps42
  go_wp2_with fail
  generalize w.alloc (.cells #[.slice As k0 cs, .int .i64 (q : Int), .slice Ad m cd] 24) = w0 at hb x0 x1 H1 H2 ⊢
  have HB := Lib.hid hb
  clear hb
  go_loopw [6, 7] (fun p i wr => ∃ (k : Nat) (ix : List Nat), k ≤ k0 ∧ i = .int .i64 (k : Int) ∧ il.take k = ofN ix ∧ Gr.below ix (s.take k) ∧ p = .int .i64 ((Gr.plc (s.take k) ix 0 : Nat) : Int) ∧ Bl w0 wr) (fun _ i _ => k0 - (intOf i).toNat)
  case atStart => exact ⟨0, [], by omega, rfl, rfl, by simp [Gr.below], by simp [Gr.plc], Bl.refl _⟩
  case round =>
    obtain ⟨k, ix, hk, rfl, htk, hbe, rfl, hbr⟩ := hrel
    have z0 := hbr.cell x0; have z1 := hbr.cell x1
    by_cases hlt : k < k0
    · have hlt' : (k : Int) < (k0 : Int) := by omega
      have hks : k < s.length := by rw [HN.out]; exact hlt
      have hki : k < il.length := by rw [HL.out]; exact hlt
      obtain ⟨b, o, rfl⟩ := H1.out.addr k (by rw [ofN_len]; exact hks)
      obtain ⟨b', o', rfl⟩ := H2.out.addr k hki
      have c1 := (H1.out.keep hbr).atN k hks
      have c2 := (H2.out.keep hbr).at k hki
      have hsz := HS.out.at k hks
      have hixl : ix.length = k := by rw [hbe.length, List.length_take]; omega
      obtain ⟨x, ex⟩ : ∃ x, s[k] = x := ⟨_, rfl⟩
      have e1 : IntKind.i64.wrap ((x : Int) - 1) = (x : Int) - 1 := IntWalk.i64_in _ (by omega)
      by_cases hx : 0 ≤ il[k] ∧ il[k] ≤ (x : Int) - 1
      · obtain ⟨y, ey⟩ : ∃ y : Nat, il[k] = (y : Int) := ⟨il[k].toNat, by omega⟩
        have hyx : y < x := by omega
        have htk' : il.take (k + 1) = ofN (ix ++ [y]) := by rw [List.take_succ_eq_append_getElem hki, htk, ofN_append, ey]; rfl
        have hbe' : Gr.below (ix ++ [y]) (s.take (k + 1)) := by
          rw [List.take_succ_eq_append_getElem hks, Gr.below_iff]
          refine ⟨by simp [hixl]; omega, fun j a1 a2 => ?_⟩
          rw [List.getElem_append, List.getElem_append]
          have hl2 : (s.take k).length = k := by rw [List.length_take]; omega
          by_cases hj : j < k
          · rw [dif_pos (by omega), dif_pos (by omega)]
            exact hbe.at j (by omega) (by omega)
          · have hj2 : j = k := by simp at a1; omega
            subst hj2
            rw [dif_neg (by omega), dif_neg (by omega)]
            simp [ex, hyx]
        have hpl : Gr.plc (s.take (k + 1)) (ix ++ [y]) 0 = Gr.plc (s.take k) ix 0 * x + y := by
          have h1 := Gr.plc_take (s.take (k + 1)) (ix ++ [y]) k (by rw [List.length_take]; omega) (by simp; omega) 0
          rw [List.take_of_length_le (l := s.take (k + 1)) (by rw [List.length_take]; omega), List.take_of_length_le (l := ix ++ [y]) (by simp; omega), List.take_take, Nat.min_eq_left (by omega)] at h1
          have h2 : (ix ++ [y]).take k = ix := by rw [← hixl]; simp
          have h3 : (s.take (k + 1))[k]'(by rw [List.length_take]; omega) = x := by rw [List.getElem_take]; exact ex
          have h4 : (ix ++ [y])[k]'(by simp; omega) = y := by rw [List.getElem_append_right (by omega)]; simp
          rw [h1, h2, h3, h4]
        have hlt3 := Gr.plc_lt hbe'
        have hle := HS.out.take (k + 1)
        rw [hpl] at hlt3
        rw [ex] at c1 hsz
        rw [ey] at c2 hx
        obtain ⟨p, ep⟩ : ∃ p, Gr.plc (s.take k) ix 0 = p := ⟨_, rfl⟩
        rw [ep] at hpl hlt3 ⊢
        have m0 : 0 ≤ (p : Int) * (x : Int) := by rw [← Int.natCast_mul]; omega
        have m1 : (p : Int) * (x : Int) + (y : Int) = ((p * x + y : Nat) : Int) := by simp
        obtain ⟨r, er⟩ : ∃ r, p * x + y = r := ⟨_, rfl⟩
        have e2 : IntKind.i64.wrap ((p : Int) * (x : Int)) = (p : Int) * (x : Int) := IntWalk.i64_in _ (by rw [er] at m1; omega)
        have e3 : IntKind.i64.wrap ((p : Int) * (x : Int) + (y : Int)) = (r : Int) := by rw [m1, er]; exact IntWalk.i64_in _ (by omega)
        have HT := Lib.hid htk'; have HBE := Lib.hid hbe'; have HPL := Lib.hid hpl; have HBR := Lib.hid hbr; have HER := Lib.hid er
        obtain ⟨hx1, hx2⟩ := hx
        clear htk' hbe' hpl htk hbe hixl ep er m1 hlt3 hle hbr ex ey
        go_wp2_with fail
        go_quiet ((go_at_call 48; exact Calls.quiet_of_same (within_yes _ _ _ _ hx1 hx2)))
        clear e1
        have f0 : (wr.drewN nq).cell? ⟨w.heap.size, 0, none⟩ = some (.slice (some ⟨b, o, none⟩) k0 cs) := z0
        go_wp2_with fail
        go_quiet (fail)
        clear e2 e3
        go_wp2_with fail
        go_roundw
        case rel => exact ⟨k + 1, ix ++ [y], by omega, by go_num, HT.out, HBE.out, by rw [HPL.out, HER.out], HBR.out.drewN _⟩
        case measure => simp [intOf]; omega
      · have HX := Lib.hid (show ¬ isIx s il from fun h => hx (by have := ((isIx_iff s il).1 h).2 k hki hks; rw [ex] at this; omega))
        rw [ex] at c1 hsz
        obtain ⟨y, ey⟩ : ∃ y, il[k] = y := ⟨_, rfl⟩
        rw [ey] at c2 hx
        have HBR := Lib.hid (HB.out.trans hbr)
        clear htk hbe hixl hbr ex ey
        go_wp2_with fail
        go_quiet ((go_at_call 48; exact Calls.quiet_of_same (within_no _ _ _ _ hx)))
        clear e1
        go_wp2_with fail
        go_ret2
        exact ⟨.inr ⟨HX.out, rfl⟩, HBR.out.drewN nq⟩
    · obtain rfl : k = k0 := by omega
      have e1 : il.take k = il := List.take_of_length_le (by rw [HL.out]; exact Nat.le_refl _)
      have e2 : s.take k = s := List.take_of_length_le (by rw [HN.out]; exact Nat.le_refl _)
      rw [e1] at htk
      rw [e2] at hbe ⊢
      have hlt3 := Gr.plc_lt hbe
      have hle := HS.out.take s.length
      rw [List.take_length] at hle
      have hfin : Gr.plc s ix 0 * q ≤ 6561 * 4 := Nat.mul_le_mul (by omega) hq
      have HT := Lib.hid htk; have HBE := Lib.hid hbe; have HBR := Lib.hid (HB.out.trans hbr)
      obtain ⟨p, ep⟩ : ∃ p, Gr.plc s ix 0 = p := ⟨_, rfl⟩
      rw [ep] at hfin ⊢
      have m0 : 0 ≤ (p : Int) * (q : Int) := by rw [← Int.natCast_mul]; omega
      have m1 : (p : Int) * (q : Int) ≤ 26244 := by rw [← Int.natCast_mul]; omega
      have HEP := Lib.hid ep
      clear htk hbe hbr hlt3 hle hfin ep e1 e2
      go_wp2_with fail
      go_ret2
      exact ⟨.inl ⟨ix, HT.out, HBE.out, by rw [HEP.out]; simp⟩, HBR.out⟩
theorem refPlace_any (As Ad Ai : Option Addr) (cs cd ci : Nat) (sl : List Int) (q : Int) (dl il : List Int) (w : World) (hl1 : sl.length ≤ 1000000) (hl2 : dl.length ≤ 1000000) (hl3 : il.length ≤ 1000000) (h1 : Ls w .i64 As sl) (h2 : Ls w .i64 Ad dl) (h3 : Ls w .i64 Ai il) :
    Calls Try.prog 21 #[.agg #[.slice As sl.length cs, .int .i64 q, .slice Ad dl.length cd], .slice Ai il.length ci] w (PlaceRes sl q dl il w) := by
  have R := fun w h1 h2 => right_any As Ad cs cd sl q dl w hl1 hl2 h1 h2
  have PL : ∀ (s : List Nat) (q' : Nat) (d : List Nat), sl = ofN s → q = (q' : Int) → dl = ofN d → GrOk s q' d → ∀ w, Ls w .i64 As sl → Ls w .i64 Ai il → Calls Try.prog 42 #[.agg #[.slice As sl.length cs, .int .i64 q, .slice Ad dl.length cd], .slice Ai il.length ci] w (RplRes s q' il w) := by
    intro s q' d e1 e2 e3 hg w h1 h3
    subst e1 e2 e3
    have := refplace_any As Ad Ai cs cd d.length ci s q' il w hg.sz hg.q4 hl3 h1 h3
    rw [ofN_len, ofN_len]
    exact this
  obtain ⟨n, hn⟩ : ∃ n, sl.length = n := ⟨_, rfl⟩
  obtain ⟨m, hm⟩ : ∃ m, dl.length = m := ⟨_, rfl⟩
  obtain ⟨k, hk⟩ : ∃ k, il.length = k := ⟨_, rfl⟩
  rw [hn, hm, hk] at PL
  rw [hn, hm] at R
  rw [hn, hm, hk]
  have b0 := Bl.new w (.cells #[.slice As n cs, .int .i64 q, .slice Ad m cd] 24)
  have x0 := c_new w #[.slice As n cs, .int .i64 q, .slice Ad m cd] 24 0
  have x1 := c_new w #[.slice As n cs, .int .i64 q, .slice Ad m cd] 24 1
  have x2 := c_new w #[.slice As n cs, .int .i64 q, .slice Ad m cd] 24 2
  simp only [List.getElem?_toArray, List.getElem?_cons_zero, List.getElem?_cons_succ] at x0 x1 x2
  have H1 := Lib.hid h1; have H2 := Lib.hid h2; have H3 := Lib.hid h3; have PL := Lib.hid PL; have R := Lib.hid R
  clear hn hm hk hl1 hl2 hl3 h1 h2 h3
  go_enter Try.func21, Try.ntmps21
  go_wp2_with fail
  generalize w.alloc (.cells #[.slice As n cs, .int .i64 q, .slice Ad m cd] 24) = w0 at b0 x0 x1 x2 ⊢
  refine (R.out _ (H1.out.keep b0) (H2.out.keep b0)).mono ?_
  rintro e w1 ⟨b, rfl, hc, hb1⟩
  have B1 := Lib.hid (b0.trans hb1)
  have y0 := hb1.cell x0; have y1 := hb1.cell x1; have y2 := hb1.cell x2
  clear x0 x1 x2 b0 hb1
  rcases hc with ⟨rfl, hok⟩ | ⟨rfl, hno⟩
  · obtain ⟨s, q', d, e1, e2, e3, hg⟩ := hok
    have P := PL.out s q' d e1 e2 e3 hg w1 (H1.out.keep B1.out) (H3.out.keep B1.out)
    have HE := Lib.hid (And.intro e1 (And.intro e2 (And.intro e3 hg)))
    clear e1 e2 e3 hg
    go_wp2_with fail
    refine P.mono ?_
    clear P
    rintro e w2 ⟨hres, hb2⟩
    have B2 := Lib.hid (B1.out.trans hb2)
    rcases hres with ⟨ix, e4, hbe, rfl⟩ | ⟨hnx, rfl⟩
    · have HX := Lib.hid (And.intro e4 hbe)
      obtain ⟨p, hp⟩ : ∃ p, Gr.plc s ix 0 * q' = p := ⟨_, rfl⟩
      rw [hp]
      have HP := Lib.hid hp
      clear e4 hbe hp hb2 y0 y1 y2
      go_wp2_with fail
      go_ret2
      exact ⟨(p : Int), 0, rfl, .inr ⟨s, q', d, HE.out.1, HE.out.2.1, HE.out.2.2.1, HE.out.2.2.2, .inl ⟨ix, HX.out.1, HX.out.2, by rw [HP.out], rfl⟩⟩, B2.out⟩
    · have HX := Lib.hid hnx
      clear hnx hb2 y0 y1 y2
      go_wp2_with fail
      go_ret2
      exact ⟨0, 2, rfl, .inr ⟨s, q', d, HE.out.1, HE.out.2.1, HE.out.2.2.1, HE.out.2.2.2, .inr ⟨HX.out, rfl, rfl⟩⟩, B2.out⟩
  · have HX := Lib.hid hno
    clear hno y0 y1 y2
    go_wp2_with fail
    go_ret2
    exact ⟨0, 100, rfl, .inl ⟨HX.out, rfl, rfl⟩, B1.out⟩
end Go.Proofs.Ytjinpngojdefiaa
