/- GridOrder: for every input the law returns true and leaves what was there as it was. -/
import Derived.Test.YtjinpngojdefiaaGrH
namespace Go.Proofs.Ytjinpngojdefiaa
open Go.RowKit
set_option maxRecDepth 20000
set_option maxHeartbeats 6400000

theorem take_seg (d : List Nat) (p q : Nat) : d.take p ++ seg d p q = d.take (p + q) := by
  unfold seg
  rw [List.take_add]
theorem equal_same (b1 o1 c1 b2 o2 c2 n : Nat) (l : List Int) (w : World) (hl : l.length = n) (hn : n ≤ 1000000) (h1 : Ls w .i64 (some ⟨b1, o1, none⟩) l) (h2 : Ls w .i64 (some ⟨b2, o2, none⟩) l) :
    Calls Try.prog 16 #[.slice (some ⟨b1, o1, none⟩) n c1, .slice (some ⟨b2, o2, none⟩) n c2] w fun e w' => e = .returned (.bool true) ∧ Bl w w' := by
  refine (Try.slices_Equal_int b1 o1 n c1 b2 o2 n c2 l l w (by omega) (by omega) (by omega) (by omega) (fun j hj => by rw [List.getD_eq_getElem?_getD, List.getElem?_eq_getElem hj]; exact h1.at j hj) (fun j hj => by rw [List.getD_eq_getElem?_getD, List.getElem?_eq_getElem hj]; exact h2.at j hj)).mono ?_
  rintro e w' ⟨rfl, q, rfl⟩
  exact ⟨by simp, (Bl.refl w).drewN q⟩

theorem order_walk (A1 : Option Addr) (c1 : Nat) (zs : List Int) (o : Int) (A2 : Option Addr) (c2 : Nat) (vs : List Int) (sm : Bool) (w : World)
    (ho : 0 ≤ o ∧ o ≤ 255) (hzs : ∀ x ∈ zs, 0 ≤ x ∧ x ≤ 255) (hvs : ∀ x ∈ vs, 0 ≤ x ∧ x ≤ 65535) (hL1 : zs.length ≤ 9223372036854775807) (hL : vs.length ≤ 9223372036854775807) (h1 : Ls w .u8 A1 zs) (h2 : Ls w .u16 A2 vs)
    (hw : ∀ v : World, Bl w v → Calls Try.prog 10 #[] v fun e w' => e = .returned (.bool true) ∧ Bl v w') :
    Calls Try.prog 6 #[.agg #[.slice A1 zs.length c1, .int .u8 o, .slice A2 vs.length c2, .bool sm]] w fun e w' => e = .returned (.bool true) ∧ Bl w w' := by
  have D := fun w h1 h2 => draft_ok A1 c1 zs o A2 c2 vs sm w ho hzs hvs hL1 hL h1 h2
  obtain ⟨n, hn⟩ : ∃ n, zs.length = n := ⟨_, rfl⟩
  obtain ⟨L, hLL⟩ : ∃ L, vs.length = L := ⟨_, rfl⟩
  rw [hn, hLL] at D ⊢
  have HW := Lib.hid hw; have H1 := Lib.hid h1; have H2 := Lib.hid h2; have HD := Lib.hid D
  clear ho hzs hvs hn hLL hL hL1 hw D h1 h2
  obtain ⟨i0, hi, hz0, hz1, hz2⟩ := info_parts info_int
  have b1 := Bl.new w (.cells #[.slice A1 n c1, .int .u8 o, .slice A2 L c2, .bool sm] 28)
  have x0 := c_new w #[.slice A1 n c1, .int .u8 o, .slice A2 L c2, .bool sm] 28 0
  have x1 := c_new w #[.slice A1 n c1, .int .u8 o, .slice A2 L c2, .bool sm] 28 1
  have x2 := c_new w #[.slice A1 n c1, .int .u8 o, .slice A2 L c2, .bool sm] 28 2
  have x3 := c_new w #[.slice A1 n c1, .int .u8 o, .slice A2 L c2, .bool sm] 28 3
  simp only [List.getElem?_toArray, List.getElem?_cons_zero, List.getElem?_cons_succ] at x0 x1 x2 x3
  go_enter Try.func6, Try.ntmps6
  go_wp2_with fail
  generalize w.alloc (.cells #[.slice A1 n c1, .int .u8 o, .slice A2 L c2, .bool sm] 28) = w0 at b1 x0 x1 x2 x3 ⊢
  refine (HW.out _ b1).mono ?_
  rintro e w1 ⟨rfl, hb1⟩
  have y0 := hb1.cell x0; have y1 := hb1.cell x1; have y2 := hb1.cell x2; have y3 := hb1.cell x3
  have B1 := Lib.hid (b1.trans hb1)
  clear b1 hb1 x0 x1 x2 x3
  go_wp2_with fail
  refine (HD.out _ (H1.out.keep B1.out) (H2.out.keep B1.out)).mono ?_
  rintro e w2 ⟨gs, cs, g, cap, s, q, d, rfl, hok, hcap, hls, hld, -, -, hb2⟩
  have B2 := Lib.hid (B1.out.trans hb2)
  clear hb2 y0 y1 y2 y3 HD
  have CH := fun w h1 h2 => check_yes (some ⟨gs, 0, none⟩) (some ⟨g, 0, none⟩) cs cap s q d w hok h1 h2
  have IX := fun N w hN h => index_ok (some ⟨gs, 0, none⟩) cs s N w hok.sz hN h
  have PL := fun Ai ci ix w hb h1 h2 h3 => Place_yes (some ⟨gs, 0, none⟩) g 0 cs cap Ai ci s q d ix w hok hcap hb h1 h2 h3
  have AT := fun Ai ci ix w hb h1 h2 h3 => At_yes (some ⟨gs, 0, none⟩) g 0 cs cap Ai ci s q d ix w hok hcap hb h1 h2 h3
  have HOK := Lib.hid hok
  obtain ⟨m, hm⟩ : ∃ m, d.length = m := ⟨_, rfl⟩
  obtain ⟨k, hk⟩ : ∃ k, s.length = k := ⟨_, rfl⟩
  obtain ⟨N, hN⟩ : ∃ N, Gr.prod s = N := ⟨_, rfl⟩
  have hqN : q * N = m := by rw [← hN, ← hm]; exact hok.len
  have N6 : (N : Int) ≤ 6561 := by have := hok.sz.take s.length; rw [List.take_length] at this; omega
  have hm4 : (m : Int) ≤ 4096 := by have := hok.most; omega
  have q1 : 1 ≤ (q : Int) := by have := hok.q1; omega
  have q4 : (q : Int) ≤ 4 := by have := hok.q4; omega
  rw [hm, hk] at CH PL AT
  rw [hk, hN] at IX
  rw [hm, hk]
  have HM := Lib.hid hm; have HK := Lib.hid hk; have HN := Lib.hid hN; have HQN := Lib.hid hqN
  have CH := Lib.hid CH; have IX := Lib.hid IX; have PL := Lib.hid PL; have AT := Lib.hid AT
  have HS := Lib.hid hls; have HDD := Lib.hid hld; have HCAP := Lib.hid hcap
  clear hok hcap hls hld hm hk hN hqN
  go_wp2_with fail
  have b3 := Bl.new w2 (.cells #[.slice (some ⟨gs, 0, none⟩) k cs, .int .i64 (q : Int), .slice (some ⟨g, 0, none⟩) m cap] 24)
  have x0 := c_new w2 #[.slice (some ⟨gs, 0, none⟩) k cs, .int .i64 (q : Int), .slice (some ⟨g, 0, none⟩) m cap] 24 0
  have x1 := c_new w2 #[.slice (some ⟨gs, 0, none⟩) k cs, .int .i64 (q : Int), .slice (some ⟨g, 0, none⟩) m cap] 24 1
  have x2 := c_new w2 #[.slice (some ⟨gs, 0, none⟩) k cs, .int .i64 (q : Int), .slice (some ⟨g, 0, none⟩) m cap] 24 2
  simp only [List.getElem?_toArray, List.getElem?_cons_zero, List.getElem?_cons_succ] at x0 x1 x2
  generalize w2.alloc (.cells #[.slice (some ⟨gs, 0, none⟩) k cs, .int .i64 (q : Int), .slice (some ⟨g, 0, none⟩) m cap] 24) = w3 at b3 x0 x1 x2 ⊢
  have X0 := Lib.hid x0; have X1 := Lib.hid x1; have X2 := Lib.hid x2
  have B3 := Lib.hid (B2.out.trans b3)
  have HS := Lib.hid (HS.out.keep b3); have HDD := Lib.hid (HDD.out.keep b3)
  clear b3 x0 x1 x2
  go_loopw [4, 5, 6, 7, 8, 9, 10] (fun v iv _ _ _ _ _ wr => ∃ i : Nat, iv = .int .i64 (i : Int) ∧ i ≤ N ∧ Ow wr w3.heap.size v (ofN (d.take (i * q))) ∧ Bl w3 wr) (fun _ iv _ _ _ _ _ _ => N - (intOf iv).toNat)
  case atStart => exact ⟨0, rfl, by omega, by rw [Nat.zero_mul]; exact World.ownsRow_nil _ _ _ _, Bl.refl _⟩
  case round =>
    obtain ⟨i, rfl, hiN, how, hb⟩ := hrel
    obtain ⟨A, cv, hv, hls, hcv⟩ := how.addr
    obtain ⟨p, hp⟩ : ∃ p, i * q = p := ⟨_, rfl⟩
    have hpm : p ≤ m := by
      rw [← hp, ← HQN.out, Nat.mul_comm q N]
      exact Nat.mul_le_mul_right _ hiN
    have hlp : (ofN (d.take (i * q))).length = p := by rw [ofN_len, List.length_take, hp, HM.out]; omega
    rw [hlp] at hv hcv
    subst hv
    have z0 := hb.cell X0.out; have z1 := hb.cell X1.out; have z2 := hb.cell X2.out
    have HOW := Lib.hid how; have HB := Lib.hid hb; have HP := Lib.hid hp; have HLP := Lib.hid hlp
    have HSr := Lib.hid (HS.out.keep hb); have HDr := Lib.hid (HDD.out.keep hb)
    by_cases hlt : i < N
    · have hpq : p + q ≤ m := by
        have : (i + 1) * q ≤ N * q := Nat.mul_le_mul_right _ hlt
        rw [Nat.add_mul, Nat.one_mul, hp, Nat.mul_comm N q, HQN.out] at this
        exact this
      have hpm' : (p : Int) < (m : Int) := by have := HOK.out.q1; omega
      have HPQ := Lib.hid hpq
      clear how hb hls hcv hp hlp hpm hpq hiN
      go_wp2_with fail
      refine (IX.out i _ hlt HSr.out).mono ?_
      rintro e w5 ⟨gi, ix, rfl, -, hri, hbi, hpi, hb5⟩
      have HRI := Lib.hid hri; have HBI := Lib.hid hbi; have HPI := Lib.hid hpi; have B5 := Lib.hid hb5
      have z0' := hb5.cell z0; have z1' := hb5.cell z1; have z2' := hb5.cell z2
      have hixl := hbi.length
      have HIXL := Lib.hid (show ix.length = k by rw [hixl, HK.out])
      clear hri hbi hpi hb5 z0 z1 z2 hixl
      go_wp2_with fail
      have P1 := PL.out (some ⟨gi, 0, none⟩) k ix w5 HBI.out (HSr.out.keep B5.out) (HDr.out.keep B5.out) HRI.out.ls
      rw [HIXL.out, HPI.out, HP.out] at P1
      refine P1.mono ?_
      clear P1
      rintro e w6 ⟨rfl, hb6⟩
      have B6 := Lib.hid (B5.out.trans hb6)
      have z0 := hb6.cell z0'; have z1 := hb6.cell z1'; have z2 := hb6.cell z2'
      have HRI := Lib.hid (HRI.out.keep hb6)
      clear hb6 z0' z1' z2'
      go_wp2_with fail
      have P1 := AT.out (some ⟨gi, 0, none⟩) k ix w6 HBI.out (HSr.out.keep B6.out) (HDr.out.keep B6.out) HRI.out.ls
      rw [HIXL.out, HPI.out, HP.out] at P1
      refine P1.mono ?_
      clear P1
      rintro e w7 ⟨gv, cvv, rfl, hcq, -, hrv, hb7⟩
      have B7 := Lib.hid (B6.out.trans hb7)
      have z0' := hb7.cell z0; have z1' := hb7.cell z1; have z2' := hb7.cell z2
      have HRV := Lib.hid hrv
      have hown := HOW.out.keep B7.out
      have hqs : (seg d p q).length = q := seg_len d p q (by rw [HM.out]; exact HPQ.out)
      have HQS := Lib.hid hqs
      clear hb7 z0 z1 z2 hrv hqs
      unfold Ow at hown
      rw [HLP.out] at hown
      go_wp2_with (at_builtin; refine wpList_append_lies _ rfl _ _ 22 rfl w3.heap.size 3 i0 (.int .i64 0) 1 8 Try.underlying22 hi hz0 hz1 hz2 rfl (by decide) _ _ _ rfl hown ⟨gv, 0, none⟩ q cvv (ints (ofN (seg d p q))) rfl ?c0 ?c1 ?c2 ?c6 ?c3 ?c4 ?c5 _ rfl ?_)
      case c0 => simp [ints, ofN_len, HQS.out]
      case c1 =>
        intro j u hj
        have hj2 : j < q := by
          have := (List.getElem?_eq_some_iff.1 hj).1
          simpa [ints, ofN_len, HQS.out] using this
        have hc := HRV.out.cell j (by rw [ofN_len, HQS.out]; exact hj2)
        have e1 : (⟨gv, 0, none⟩ : Addr).add j = ⟨gv, j, none⟩ := by unfold Addr.add; split <;> simp_all
        rw [e1, hc]
        rw [← hj]
        simp [ints, ofN_len, HQS.out, hj2]
      case c2 =>
        intro u hu
        obtain ⟨x, _, rfl⟩ := List.mem_map.1 hu
        rfl
      case c6 => omega
      case c3 => have := HPQ.out; unfold maxLen; omega
      case c4 => have := HPQ.out; omega
      case c5 => exact Below.size (HB.out.trans B7.out)
      intro g1 cap1 w8 hown' hgrow hat hlt1
      have hst : (i + 1) * q = p + q := by rw [Nat.add_mul, Nat.one_mul, HP.out]
      have O1 : Ow w8 w3.heap.size (.slice (some ⟨g1, 0, none⟩) (p + q) cap1) (ofN (d.take ((i + 1) * q))) := by
        unfold Ow
        rw [hst, ← take_seg, ofN_append, List.length_append, ofN_len (seg d p q), HQS.out]
        have e1 : (ofN (d.take p)).length = p := by have := HLP.out; rw [HP.out] at this; exact this
        rw [e1]
        have e2 : ints (ofN (d.take p) ++ ofN (seg d p q)) = ints (ofN (d.take p)) ++ ints (ofN (seg d p q)) := by simp [ints]
        rw [e2]
        rw [HP.out] at hown'
        exact hown'
      have B8 : Bl w3 w8 := (HB.out.trans B7.out).grown hgrow (Below.size (HB.out.trans B7.out)) (fun k hk => (HOW.out.lt k hk).1)
      have HO1 := Lib.hid O1; have HB8 := Lib.hid B8
      clear O1 B8 hown hown' hgrow hat hst z0' z1' z2'
      go_wp2_with fail
      go_roundw
      case rel => exact ⟨i + 1, by go_num, by omega, HO1.out, HB8.out⟩
      case measure => simp [intOf]; omega
    · obtain rfl : i = N := by omega
      have hpm2 : p = m := by rw [← hp, ← HQN.out, Nat.mul_comm]
      subst hpm2
      have hpos : 1 ≤ p := by
        have h1 := Gr.prod_pos (s := s) fun n hn => by have := HOK.out.sz.2 n hn; omega
        have h2 : 1 * 1 ≤ q * i := Nat.mul_le_mul (by omega) (by rw [HN.out] at h1; exact h1)
        rw [HQN.out] at h2
        omega
      have htk : d.take (i * q) = d := List.take_of_length_le (by rw [HM.out, hp]; exact Nat.le_refl _)
      obtain ⟨gv, cap2, hv, hcap2, hgv, hrow⟩ := Rw.of_own how rfl (by rw [hlp]; exact hpos)
      obtain ⟨rfl, hvl, rfl⟩ := Value.slice.inj hv
      clear hvl
      rw [htk] at hrow
      have HROW := Lib.hid hrow
      have hpp : (p : Int) < (p : Int) ↔ False := by simp
      clear how hb hls hcv hp hlp hpm hrow hv hpos htk hiN hcap2 hgv hpp
      go_wp2_with fail
      refine (CH.out _ HSr.out HDr.out).mono ?_
      rintro e w5 ⟨rfl, hb5⟩
      have z2' := hb5.cell z2
      have E := equal_same gv 0 cv g 0 cap p (ofN d) w5 (by rw [ofN_len, HM.out]) (by omega) (HROW.out.keep hb5).ls (HDr.out.keep hb5)
      have B5 := Lib.hid (B3.out.trans (HB.out.trans hb5))
      clear hb5 z0 z1 z2
      go_wp2_with fail
      refine E.mono ?_
      clear E
      rintro e w6 ⟨rfl, hb6⟩
      have B6 := Lib.hid (B5.out.trans hb6)
      clear hb6
      go_wp2_with fail
      go_ret
      exact ⟨rfl, B6.out⟩
end Go.Proofs.Ytjinpngojdefiaa
