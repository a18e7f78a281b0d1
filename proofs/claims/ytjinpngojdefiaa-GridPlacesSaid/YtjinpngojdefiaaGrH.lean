/- Contracts of grids: the grid of a draft. -/
import Derived.Test.YtjinpngojdefiaaGrG
namespace Go.Proofs.Ytjinpngojdefiaa
open Go.RowKit
set_option maxRecDepth 20000
set_option maxHeartbeats 6400000

theorem Ls.put {w : World} {b o : Nat} {l : List Int} (h : Ls w .i64 (some ⟨b, o, none⟩) l) (g i : Nat) (v : Value) (hg : g ≠ b) : Ls (w.setCell ⟨g, i, none⟩ v) .i64 (some ⟨b, o, none⟩) l := fun hl => by
  refine ⟨b, o, rfl, fun j hj => ?_⟩
  rw [World.cell?_setCell_other (h := (fun e' => hg (congrArg Addr.block e') : (⟨g, i, none⟩ : Addr) ≠ ⟨b, o + j, none⟩))]
  exact h.at j hj
theorem Ls.put3 {w : World} {b o : Nat} {l : List Int} (h : Ls w .i64 (some ⟨b, o, none⟩) l) (g : Nat) (hg : g ≠ b) (u v x : Value) : Ls (((w.setCell ⟨g, 0, none⟩ u).setCell ⟨g, 1, none⟩ v).setCell ⟨g, 2, none⟩ x) .i64 (some ⟨b, o, none⟩) l :=
  ((h.put g 0 u hg).put g 1 v hg).put g 2 x hg
theorem draft_ok (A1 : Option Addr) (c1 : Nat) (zs : List Int) (o : Int) (A2 : Option Addr) (c2 : Nat) (vs : List Int) (sm : Bool) (w : World)
    (ho : 0 ≤ o ∧ o ≤ 255) (hzs : ∀ x ∈ zs, 0 ≤ x ∧ x ≤ 255) (hvs : ∀ x ∈ vs, 0 ≤ x ∧ x ≤ 65535) (hL1 : zs.length ≤ 9223372036854775807) (hL : vs.length ≤ 9223372036854775807) (h1 : Ls w .u8 A1 zs) (h2 : Ls w .u16 A2 vs) :
    Calls Try.prog 28 #[.agg #[.slice A1 zs.length c1, .int .u8 o, .slice A2 vs.length c2, .bool sm]] w fun e w' =>
      ∃ (gs cs g cap : Nat) (s : List Nat) (q : Nat) (d : List Nat), e = .returned (.agg #[.slice (some ⟨gs, 0, none⟩) s.length cs, .int .i64 (q : Int), .slice (some ⟨g, 0, none⟩) d.length cap]) ∧ GrOk s q d ∧ d.length ≤ cap ∧ Ls w' .i64 (some ⟨gs, 0, none⟩) (ofN s) ∧ Ls w' .i64 (some ⟨g, 0, none⟩) (ofN d) ∧ w.heap.size ≤ gs ∧ w.heap.size ≤ g ∧ Bl w w' ∧ s.length ≤ cs := by
  have M := fun As cs s q w hs n1 hq hq4 h1 h2 hpq => made_ok A1 zs.length c1 o A2 c2 vs sm As cs s q w hs n1 hq hq4 hvs hL h1 h2 hpq
  have HV := Lib.hid hzs
  obtain ⟨n, hn⟩ : ∃ n, zs.length = n := ⟨_, rfl⟩
  obtain ⟨L, hLL⟩ : ∃ L, vs.length = L := ⟨_, rfl⟩
  have HN := Lib.hid hn; have HLL := Lib.hid hLL
  have n9 : (n : Int) ≤ 9223372036854775807 := by omega
  have L9 : (L : Int) ≤ 9223372036854775807 := by omega
  rw [hn, hLL] at M ⊢
  have M := Lib.hid M
  obtain ⟨q, hq⟩ : ∃ q : Nat, 1 + o % 3 = (q : Int) := ⟨(1 + o % 3).toNat, by omega⟩
  have hq1 : 1 ≤ q := by omega
  have hq3 : q ≤ 3 := by omega
  have HQ := Lib.hid hq
  obtain ⟨o0, o1⟩ := ho
  clear hzs hvs hn hLL hL hL1 hq
  obtain ⟨i0, hi, hz0, hz1, hz2⟩ := info_parts info_int
  have b2 := (Bl.new w (.cells #[.slice A1 n c1, .int .u8 o, .slice A2 L c2, .bool sm] 28)).trans (Bl.new _ (.cells #[.slice none 0 0, .int .i64 0, .slice none 0 0] 24))
  have D0 := (Bl.new _ (.cells #[.slice none 0 0, .int .i64 0, .slice none 0 0] 24)).cell (c_new w #[.slice A1 n c1, .int .u8 o, .slice A2 L c2, .bool sm] 28 0)
  have D1 := (Bl.new _ (.cells #[.slice none 0 0, .int .i64 0, .slice none 0 0] 24)).cell (c_new w #[.slice A1 n c1, .int .u8 o, .slice A2 L c2, .bool sm] 28 1)
  have D2 := (Bl.new _ (.cells #[.slice none 0 0, .int .i64 0, .slice none 0 0] 24)).cell (c_new w #[.slice A1 n c1, .int .u8 o, .slice A2 L c2, .bool sm] 28 2)
  have D3 := (Bl.new _ (.cells #[.slice none 0 0, .int .i64 0, .slice none 0 0] 24)).cell (c_new w #[.slice A1 n c1, .int .u8 o, .slice A2 L c2, .bool sm] 28 3)
  have G6 := Gb.new (w.alloc (.cells #[.slice A1 n c1, .int .u8 o, .slice A2 L c2, .bool sm] 28)) (.slice none 0 0) (.slice none 0 0) 0 24
  have hsz1 : (w.alloc (.cells #[.slice A1 n c1, .int .u8 o, .slice A2 L c2, .bool sm] 28)).heap.size = w.heap.size + 1 := by simp
  have hsz : ((w.alloc (.cells #[.slice A1 n c1, .int .u8 o, .slice A2 L c2, .bool sm] 28)).alloc (.cells #[.slice none 0 0, .int .i64 0, .slice none 0 0] 24)).heap.size = w.heap.size + 1 + 1 := by simp
  rw [hsz1] at G6
  go_enter Try.func28, Try.ntmps28
  go_wp2_with fail
  generalize (w.alloc (.cells #[.slice A1 n c1, .int .u8 o, .slice A2 L c2, .bool sm] 28)).alloc (.cells #[.slice none 0 0, .int .i64 0, .slice none 0 0] 24) = w2 at b2 D0 D1 D2 D3 G6 hsz ⊢
  obtain ⟨g6, hg6⟩ : ∃ g, w.heap.size + 1 = g := ⟨_, rfl⟩
  rw [hg6] at G6 hsz ⊢
  have HG6 := Lib.hid hg6; have HSZ := Lib.hid hsz
  have H1 := Lib.hid (h1.keep b2); have H2 := Lib.hid (h2.keep b2)
  have HD0 := Lib.hid D0; have HD1 := Lib.hid D1; have HD2 := Lib.hid D2; have HD3 := Lib.hid D3; have HG6b := Lib.hid G6; have HB2 := Lib.hid b2
  clear hg6 hsz hsz1 D0 D1 D2 D3 G6 b2 h1 h2
  go_loopw [3, 4] (fun v iv wr => ∃ (i : Nat) (s : List Nat), iv = .int .i64 (i : Int) ∧ i ≤ n ∧ i ≤ 3 ∧ s.length = i ∧ (∀ x ∈ s, 2 ≤ x ∧ x ≤ 4) ∧ Ow wr w2.heap.size v (ofN s) ∧ Bl w2 wr) (fun _ iv _ => n - (intOf iv).toNat)
  case atStart => exact ⟨0, [], rfl, by omega, by omega, rfl, fun x hx => by simp at hx, World.ownsRow_nil _ _ _ _, Bl.refl _⟩
  case round =>
    obtain ⟨i, s, rfl, hin, hi3, hl, hx, how, hb⟩ := hrel
    have HX := Lib.hid hx; have HOW := Lib.hid how; have HB := Lib.hid hb; have HL := Lib.hid hl
    have d0 := hb.cell HD0.out
    by_cases hlt : i < n ∧ i < 3
    · obtain ⟨hlt, hlt3⟩ := hlt
      have hlt' : (i : Int) < (n : Int) := by omega
      have hlt3' : (i : Int) < 3 := by omega
      have hiz : i < zs.length := by rw [HN.out]; exact hlt
      obtain ⟨bv, ov, rfl⟩ := H1.out.addr i hiz
      have c1 := (H1.out.keep hb).at i hiz
      have c2 := HV.out _ (List.getElem_mem hiz)
      obtain ⟨x, ex⟩ : ∃ x, zs[i] = x := ⟨_, rfl⟩
      rw [ex] at c1 c2
      obtain ⟨x0, x1⟩ := c2
      obtain ⟨y, hy⟩ : ∃ y : Nat, 2 + x % 3 = (y : Int) := ⟨(2 + x % 3).toNat, by omega⟩
      have HY := Lib.hid (show 2 ≤ y ∧ y ≤ 4 by omega)
      have hown := how
      clear hx how hb hl ex
      go_wp2_with (at_builtin; refine wpList_append_lies _ rfl _ _ 22 rfl w2.heap.size 3 i0 (.int .i64 0) 1 8 Try.underlying22 hi hz0 hz1 hz2 rfl (by decide) _ _ _ rfl (World.ownsRow.alloc hown _) ⟨_, 0, none⟩ 1 1 [.int .i64 (y : Int)] rfl rfl ?c1 ?c2 (by decide) ?c3 ?c4 ?c5 _ rfl ?_)
      case c1 =>
        intro j u hj
        match j, hj with
        | 0, hj => simp at hj; subst hj; simp [Addr.add]
      case c2 => intro u hu; simp at hu; subst hu; rfl
      case c3 => have := HL.out; rw [ofN_len]; unfold maxLen; omega
      case c4 => have := HL.out; rw [ofN_len]; omega
      case c5 => have := Below.size HB.out; simp; omega
      intro g1 cap w1 hown' hgrow hat hlt1
      have hb1 := Bl.new wr (.cells #[.int .i64 (y : Int)] 3)
      have O1 : Ow w1 w2.heap.size (.slice (some ⟨g1, 0, none⟩) ((ofN s).length + 1) cap) (ofN (s ++ [y])) := by
        unfold Ow
        rw [ofN_append, show ofN [y] = [(y : Int)] from rfl, ← ints_snoc, List.length_append]
        exact hown'
      have B1 : Bl w2 w1 := (HB.out.trans hb1).grown hgrow (by have := Below.size (HB.out.trans hb1); exact this) (fun k hk => (HOW.out.lt k hk).1)
      have HO1 := Lib.hid O1; have HB1 := Lib.hid B1
      clear hb1 O1 B1 hown hown' hgrow hat d0 hy
      go_wp2_with fail
      go_roundw
      case rel => exact ⟨i + 1, s ++ [y], by go_num, by omega, by omega, by rw [List.length_append, HL.out]; rfl, fun x hx => by rcases List.mem_append.1 hx with h | h; exact HX.out x h; simp at h; subst h; exact HY.out, HO1.out, HB1.out⟩
      case measure => simp [intOf]; omega
    · obtain ⟨A, cv, hv, hls, hcv⟩ := how.addr
      rw [ofN_len, hl] at hv
      subst hv
      clear hx how hb hl hls hcv
      have hdx : (i = n) ∨ (i < n ∧ i = 3) := by omega
      clear hlt
      have d1 := HB.out.cell HD1.out; have d2 := HB.out.cell HD2.out; have d3 := HB.out.cell HD3.out
      rcases hdx with rfl | ⟨hlt, rfl⟩
      all_goals
        go_upto_if 29 with (fail)
        go_cut [3] (fun v wy => ∃ (gs cs : Nat) (s : List Nat), v = .slice (some ⟨gs, 0, none⟩) s.length cs ∧ 1 ≤ s.length ∧ s.length ≤ 3 ∧ (∀ x ∈ s, 2 ≤ x ∧ x ≤ 4) ∧ Ls wy .i64 (some ⟨gs, 0, none⟩) (ofN s) ∧ w2.heap.size ≤ gs ∧ Bl w2 wy ∧ s.length ≤ cs)
        case first =>
          by_cases hs0 : s.length = 0
          · first
              | (exfalso; have := HL.out; omega)
              | (have hi0 := HL.out
                 rw [hs0] at hi0
                 subst hi0
                 go_wp2_with fail
                 go_meet
                 exact ⟨wr.heap.size, 1, [2], rfl, by simp, by simp, fun x hx => by simp at hx; omega, (Rw.new wr [2] 3).ls, Below.size HB.out, HB.out.trans (Bl.new wr _), by simp⟩)
          · obtain ⟨gs, cap, hv, hcap, hge, hrow⟩ := Rw.of_own HOW.out rfl (by rw [ofN_len]; omega)
            obtain ⟨rfl, _, rfl⟩ := Value.slice.inj hv
            have hz : ((s.length : Int) == 0) = false := by rw [beq_eq_false_iff_ne]; omega
            rw [HL.out] at hz
            have HROW := Lib.hid hrow
            have HCC := Lib.hid (show s.length ≤ cv by rw [ofN_len] at hcap; exact hcap)
            clear hrow hv
            go_wp2_with fail
            go_meet
            exact ⟨gs, cv, s, by rw [HL.out], by omega, by have := HL.out; omega, HX.out, HROW.out.ls, hge, HB.out, HCC.out⟩
        case rest =>
          obtain ⟨gs, cs, s', rfl, hs1, hs3, hsx, hls, hgs, hbc, hcsl⟩ := hcut
          have HCSL := Lib.hid hcsl
          have hsz : Sz s' := ⟨by omega, fun x hx => by have := hsx x hx; omega⟩
          have hpr : Gr.prod s' ≤ 64 := by
            have h1 : Gr.prod s' ≤ 4 ^ s'.length := Gr.prod_le fun x hx => (hsx x hx).2
            have h2 : 4 ^ s'.length ≤ 4 ^ 3 := Nat.pow_le_pow_right (by omega) hs3
            omega
          have MM := M.out (some ⟨gs, 0, none⟩) cs s' q _ hsz hs1 hq1 hq3 hls (H2.out.keep hbc) hpr
          have e0 := hbc.cell HD0.out; have e1 := hbc.cell HD1.out; have e2 := hbc.cell HD2.out; have e3 := hbc.cell HD3.out
          have HQ' := HQ.out
          have HLS := Lib.hid hls; have HGS := Lib.hid hgs; have HBC := Lib.hid hbc
          clear hcsl hls hgs hbc hsz hpr hsx hs1 hs3 d0 d1 d2 d3
          obtain ⟨n', hn'⟩ : ∃ n', s'.length = n' := ⟨_, rfl⟩
          rw [hn'] at MM ⊢
          have HN' := Lib.hid hn'
          clear hn'
          go_wp2_with fail
          refine MM.mono ?_
          clear MM
          rintro e w4 ⟨g, cap, d, rfl, hok, hcap, hld, hgg, hb4⟩
          have HOK := Lib.hid hok; have HCAP := Lib.hid hcap; have HLD := Lib.hid hld; have HGG := Lib.hid hgg; have HLS4 := Lib.hid (HLS.out.keep hb4); have HB4 := Lib.hid (HBC.out.trans hb4)
          have G4 := HG6b.out.keep (HBC.out.trans hb4)
          obtain ⟨y0, y1, y2, y3⟩ := G4
          have f0 := y3 0; have f1 := y3 1; have f2 := y3 2
          have hgwc := Below.size HBC.out
          have HNE1 := Lib.hid (show g6 ≠ gs by have := HG6.out; have := HSZ.out; have := HGS.out; omega)
          have HNE2 := Lib.hid (show g6 ≠ g by have := HG6.out; have := HSZ.out; have := HGG.out; omega)
          have HGW := Lib.hid (show w.heap.size ≤ gs ∧ w.heap.size ≤ g by have := HG6.out; have := HSZ.out; have := HGS.out; have := HGG.out; constructor <;> omega)
          have HNP := Lib.hid HQ'
          clear hok hcap hld hgg hb4 y3 hgwc e0 e1 e2 e3 HQ'
          go_wp2_with fail
          have ST := store_three y0 y1 y2 (.slice (some ⟨gs, 0, none⟩) n' cs) (.int .i64 (q : Int)) (.slice (some ⟨g, 0, none⟩) d.length cap)
          refine bodyPost_ret (v := .agg #[.slice (some ⟨gs, 0, none⟩) n' cs, .int .i64 (q : Int), .slice (some ⟨g, 0, none⟩) d.length cap]) (by obtain ⟨s0, s1, s2⟩ := ST; simp [results, Try.results28, go_sem, s0, s1, s2]) rfl ⟨gs, cs, g, cap, s', q, d, by rw [HN'.out], HOK.out, HCAP.out, ?_, ?_, HGW.out.1, HGW.out.2, ?_, HCSL.out⟩
          · exact HLS4.out.put3 g6 HNE1.out _ _ _
          · exact HLD.out.put3 g6 HNE2.out _ _ _
          · have hle : w.heap.size ≤ g6 := by have := HG6.out; omega
            have hb := HB2.out.trans HB4.out
            exact Below.setCell (Below.setCell (Below.setCell hb hle _) hle _) hle _
end Go.Proofs.Ytjinpngojdefiaa
