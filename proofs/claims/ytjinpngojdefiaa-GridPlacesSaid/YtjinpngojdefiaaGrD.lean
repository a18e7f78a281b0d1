/- Contracts of grids: the place of an index. -/
import Derived.Test.YtjinpngojdefiaaGrC
namespace Go.Proofs.Ytjinpngojdefiaa
open Go.RowKit
set_option maxRecDepth 20000
set_option maxHeartbeats 3200000

theorem place_ok (As Ad : Option Addr) (cs cd m : Nat) (s : List Nat) (q : Nat) (sp : List Nat) (w : World) (hs : Sz s) (q4 : q ≤ 4) (hl : sp.length = 4) (hb : Gr.below (sp.take s.length) s) (h1 : Ls w .i64 As (ofN s)) :
    Calls Try.prog 41 #[.agg #[.slice As s.length cs, .int .i64 (q : Int), .slice Ad m cd], .agg (ints (ofN sp)).toArray] w fun e w' => e = .returned (.int .i64 ((Gr.plc s (sp.take s.length) 0 * q : Nat) : Int)) ∧ Bl w w' := by
  have HS := Lib.hid hs; have HB := Lib.hid hb
  obtain ⟨n, hn⟩ : ∃ n, s.length = n := ⟨_, rfl⟩
  have q4' : (q : Int) ≤ 4 := by omega
  have n4 : (n : Int) ≤ 4 := by have := hs.1; omega
  have HN := Lib.hid hn; have HL := Lib.hid hl
  have hfin : Gr.plc s (sp.take n) 0 * q ≤ 6561 * 4 := by
    have q1 := Gr.plc_lt hb
    have q2 := hs.take s.length
    rw [List.take_length] at q2
    rw [hn] at q1
    exact Nat.mul_le_mul (by omega) q4
  rw [hn] at HB ⊢
  clear hn hl hb hs q4
  have b1 := Bl.new w (.cells #[.slice As n cs, .int .i64 (q : Int), .slice Ad m cd] 74)
  have x0 := c_new w #[.slice As n cs, .int .i64 (q : Int), .slice Ad m cd] 74 0
  have x1 := c_new w #[.slice As n cs, .int .i64 (q : Int), .slice Ad m cd] 74 1
  simp only [List.getElem?_toArray, List.getElem?_cons_zero, List.getElem?_cons_succ] at x0 x1
  have r2 := Rw.new (w.alloc (.cells #[.slice As n cs, .int .i64 (q : Int), .slice Ad m cd] 74)) (ofN sp) 79
  have b2 := Bl.new (w.alloc (.cells #[.slice As n cs, .int .i64 (q : Int), .slice Ad m cd] 74)) (.cells (ints (ofN sp)).toArray 79)
  have y0 := b2.cell x0
  have y1 := b2.cell x1
  have H1 := Lib.hid (h1.keep (b1.trans b2))
  have b12 := b1.trans b2
  have hsz : (w.alloc (.cells #[.slice As n cs, .int .i64 (q : Int), .slice Ad m cd] 74)).heap.size = w.heap.size + 1 := by simp
  rw [hsz] at r2
  clear h1 x0 x1 b1 b2 hsz
  go_enter Try.func41, Try.ntmps41
  go_wp2_with fail
  generalize (w.alloc (.cells #[.slice As n cs, .int .i64 (q : Int), .slice Ad m cd] 74)).alloc (.cells (ints (ofN sp)).toArray 79) = w0 at r2 b12 y0 y1 H1 ⊢
  go_loop [5, 12] (fun p i => ∃ k : Nat, k ≤ n ∧ i = .int .i64 (k : Int) ∧ p = .int .i64 ((Gr.plc (s.take k) (sp.take k) 0 : Nat) : Int)) (fun _ i => n - (intOf i).toNat)
  case atStart => exact ⟨0, by omega, rfl, by simp [Gr.plc]⟩
  case round =>
    obtain ⟨k, hk, rfl, rfl⟩ := hrel
    by_cases hlt : k < n
    · have hlt' : (k : Int) < (n : Int) := by omega
      have hks : k < s.length := by rw [HN.out]; exact hlt
      have hk4 : (k : Int) < 4 := by omega
      have hkp : k < sp.length := by rw [HL.out]; omega
      obtain ⟨b, o, rfl⟩ := H1.out.addr k (by rw [ofN_len]; exact hks)
      have c1 := H1.out.atN k hks
      have c2 := r2.cell k (by rw [ofN_len]; exact hkp)
      have e2 : (ofN sp)[k]'(by rw [ofN_len]; exact hkp) = ((sp[k] : Nat) : Int) := by simp [ofN]
      rw [e2] at c2
      have hx := HS.out.at k hks
      have hstep := Gr.plc_take s sp k hks hkp 0
      have hless := Gr.plc_le HB.out (k + 1)
      have hle := HS.out.take (k + 1)
      have et : (sp.take n).take (k + 1) = sp.take (k + 1) := by rw [List.take_take]; congr 1; omega
      rw [et, hstep] at hless
      have HST := Lib.hid hstep
      clear hstep e2 et
      obtain ⟨x, ex⟩ : ∃ x, s[k] = x := ⟨_, rfl⟩
      obtain ⟨y, ey⟩ : ∃ y, sp[k] = y := ⟨_, rfl⟩
      obtain ⟨p, ep⟩ : ∃ p, Gr.plc (s.take k) (sp.take k) 0 = p := ⟨_, rfl⟩
      rw [ex] at c1 hx hless HST
      rw [ey] at c2 hless HST
      rw [ep] at hless HST ⊢
      have m1 : 0 ≤ (p : Int) * (x : Int) := by rw [← Int.natCast_mul]; omega
      have m2 : (p : Int) * (x : Int) + (y : Int) ≤ 6561 := by rw [← Int.natCast_mul]; omega
      clear ex ey ep hless hle hx
      go_wp2_with fail
      go_round
      case rel => exact ⟨k + 1, by omega, by go_num, by rw [HST.out]; simp⟩
      case measure => simp [intOf]; omega
    · obtain rfl : k = n := by omega
      have et : s.take k = s := List.take_of_length_le (by rw [HN.out]; exact Nat.le_refl _)
      rw [et]
      obtain ⟨p, ep⟩ : ∃ p, Gr.plc s (sp.take k) 0 = p := ⟨_, rfl⟩
      rw [ep] at hfin ⊢
      have EP := Lib.hid ep
      have m1 : 0 ≤ (p : Int) * (q : Int) := by rw [← Int.natCast_mul]; omega
      have m2 : (p : Int) * (q : Int) ≤ 26244 := by rw [← Int.natCast_mul]; omega
      clear et ep hfin
      go_wp2_with fail
      go_ret
      exact ⟨by rw [EP.out]; simp, b12⟩

theorem list_four {α : Type} (l : List α) (h : l.length = 4) : ∃ a b c d, l = [a, b, c, d] := by
  match l, h with
  | [a, b, c, d], _ => exact ⟨a, b, c, d, rfl⟩
/-- An index with zeros behind it. -/
def pad (ix : List Nat) : List Nat := ix ++ List.replicate (4 - ix.length) 0
theorem pad_len (ix : List Nat) (h : ix.length ≤ 4) : (pad ix).length = 4 := by simp [pad]; omega
theorem pad_take (ix : List Nat) : (pad ix).take ix.length = ix := by simp [pad]
theorem ofN_append (a b : List Nat) : ofN (a ++ b) = ofN a ++ ofN b := by simp [ofN]
theorem spot_step (ix : List Nat) (k : Nat) (h : k < ix.length) (h4 : ix.length ≤ 4) : (ofN (ix.take k) ++ List.replicate (4 - k) 0).set k ((ix[k] : Nat) : Int) = ofN (ix.take (k + 1)) ++ List.replicate (4 - (k + 1)) 0 := by
  have e : 4 - k = (4 - (k + 1)) + 1 := by omega
  have hl : (ofN (ix.take k)).length = k := by rw [ofN_len, List.length_take]; omega
  rw [e, List.replicate_succ, List.take_succ_eq_append_getElem h, ofN_append, List.append_assoc, List.set_append_right _ _ (by omega), hl, Nat.sub_self]
  rfl
/-- Four cells stored one after the other: what each store leaves. -/
theorem store_four {w : World} {g : Nat} {u0 u1 u2 u3 : Int} (h : Rw w g [u0, u1, u2, u3]) (a0 a1 a2 a3 : Int) :
    (w.setCell ⟨g, 0, none⟩ (.int .i64 a0)).cell? ⟨g, 0, none⟩ = some (.int .i64 a0) ∧
    ((w.setCell ⟨g, 0, none⟩ (.int .i64 a0)).setCell ⟨g, 1, none⟩ (.int .i64 a1)).cell? ⟨g, 1, none⟩ = some (.int .i64 a1) ∧
    (((w.setCell ⟨g, 0, none⟩ (.int .i64 a0)).setCell ⟨g, 1, none⟩ (.int .i64 a1)).setCell ⟨g, 2, none⟩ (.int .i64 a2)).cell? ⟨g, 2, none⟩ = some (.int .i64 a2) ∧
    ((((w.setCell ⟨g, 0, none⟩ (.int .i64 a0)).setCell ⟨g, 1, none⟩ (.int .i64 a1)).setCell ⟨g, 2, none⟩ (.int .i64 a2)).setCell ⟨g, 3, none⟩ (.int .i64 a3)).cell? ⟨g, 3, none⟩ = some (.int .i64 a3) := by
  have h0 := h.set 0 a0 (by simp)
  have h1 := h0.set 1 a1 (by simp)
  have h2 := h1.set 2 a2 (by simp)
  have h3 := h2.set 3 a3 (by simp)
  exact ⟨h0.cell 0 (by simp), h1.cell 1 (by simp), h2.cell 2 (by simp), h3.cell 3 (by simp)⟩
theorem spot_yes (As Ad Ai : Option Addr) (cs cd m ci : Nat) (s : List Nat) (q : Int) (ix : List Nat) (w : World) (hs : Sz s) (hb : Gr.below ix s) (h1 : Ls w .i64 As (ofN s)) (h2 : Ls w .i64 Ai (ofN ix)) :
    Calls Try.prog 53 #[.agg #[.slice As s.length cs, .int .i64 q, .slice Ad m cd], .slice Ai ix.length ci] w fun e w' => e = .returned (.tuple #[.agg (ints (ofN (pad ix))).toArray, .bool true]) ∧ Bl w w' := by
  have HS := Lib.hid hs; have HB := Lib.hid hb
  have hlen := hb.length
  obtain ⟨n, hn⟩ : ∃ n, s.length = n := ⟨_, rfl⟩
  have n4 : (n : Int) ≤ 4 := by have := hs.1; omega
  rw [hn] at hlen
  have HN := Lib.hid hn; have HL := Lib.hid hlen
  rw [hn, hlen]
  clear hn hlen hb hs
  have b1 := Bl.new w (.cells #[.slice As n cs, .int .i64 q, .slice Ad m cd] 74)
  have x0 := c_new w #[.slice As n cs, .int .i64 q, .slice Ad m cd] 74 0
  simp only [List.getElem?_toArray, List.getElem?_cons_zero] at x0
  have r4 := Rw.new (w.alloc (.cells #[.slice As n cs, .int .i64 q, .slice Ad m cd] 74)) [0, 0, 0, 0] 79
  have b2 := Bl.new (w.alloc (.cells #[.slice As n cs, .int .i64 q, .slice Ad m cd] 74)) (.cells (ints [0, 0, 0, 0]).toArray 79)
  have y0 := b2.cell x0
  have b12 := b1.trans b2
  have H1 := Lib.hid (h1.keep b12); have H2 := Lib.hid (h2.keep b12)
  have hsz : (w.alloc (.cells #[.slice As n cs, .int .i64 q, .slice Ad m cd] 74)).heap.size = w.heap.size + 1 := by simp
  have hsz2 : ((w.alloc (.cells #[.slice As n cs, .int .i64 q, .slice Ad m cd] 74)).alloc (.cells (ints [0, 0, 0, 0]).toArray 79)).heap.size = w.heap.size + 2 := by simp
  rw [hsz] at r4
  simp only [ints, List.map_cons, List.map_nil] at r4 b2 y0 b12 H1 H2 hsz2
  clear h1 h2 x0 b1 b2 hsz
  go_enter Try.func53, Try.ntmps53
  go_wp2_with fail
  have r6 := Rw.new ((w.alloc (.cells #[.slice As n cs, .int .i64 q, .slice Ad m cd] 74)).alloc (.cells #[.int .i64 0, .int .i64 0, .int .i64 0, .int .i64 0] 79)) [0, 0, 0, 0] 79
  rw [hsz2] at r6
  simp only [ints, List.map_cons, List.map_nil] at r6
  generalize (w.alloc (.cells #[.slice As n cs, .int .i64 q, .slice Ad m cd] 74)).alloc (.cells #[.int .i64 0, .int .i64 0, .int .i64 0, .int .i64 0] 79) = w5 at r4 y0 b12 H1 H2 hsz2 r6 ⊢
  have b6 := Bl.new w5 (.cells #[.int .i64 0, .int .i64 0, .int .i64 0, .int .i64 0] 79)
  generalize w5.alloc (.cells #[.int .i64 0, .int .i64 0, .int .i64 0, .int .i64 0] 79) = w6 at r6 b6 ⊢
  have HZ := Lib.hid hsz2; have R4 := Lib.hid r4; have Y0 := Lib.hid y0; have B12 := Lib.hid b12
  clear hsz2 r4 y0 b12
  go_loopw [7, 8, 19] (fun _ _ i wr => ∃ k : Nat, k ≤ n ∧ i = .int .i64 (k : Int) ∧ Rw wr (w.heap.size + 2) (ofN (ix.take k) ++ List.replicate (4 - k) 0) ∧ Bl w5 wr) (fun _ _ i _ => n - (intOf i).toNat)
  case atStart => exact ⟨0, by omega, rfl, r6, b6⟩
  case round =>
    clear r6 b6
    obtain ⟨k, hk, rfl, hrow, hb⟩ := hrel
    by_cases hlt : k < n
    · have hlt' : (k : Int) < (n : Int) := by omega
      have hk4 : (k : Int) < 4 := by omega
      have hks : k < s.length := by rw [HN.out]; exact hlt
      have hki : k < ix.length := by rw [HL.out]; exact hlt
      obtain ⟨b, o, rfl⟩ := H1.out.addr k (by rw [ofN_len]; exact hks)
      obtain ⟨b', o', rfl⟩ := H2.out.addr k (by rw [ofN_len]; exact hki)
      have c0 := hb.cell Y0.out
      have c1 := (H1.out.keep hb).atN k hks
      have c2 := (H2.out.keep hb).atN k hki
      have hlen : (ofN (ix.take k) ++ List.replicate (4 - k) 0).length = 4 := by simp [ofN]; omega
      have c3 := hrow.cell k (by omega)
      have f3 := hrow.free k
      have hset := hrow.set k ((ix[k] : Nat) : Int) (by omega)
      rw [spot_step ix k hki (by rw [HL.out]; omega)] at hset
      have hbs : Bl w5 (wr.setCell ⟨w.heap.size + 2, k, none⟩ (.int .i64 ((ix[k] : Nat) : Int))) := Below.setCell hb (by rw [HZ.out]; exact Nat.le_refl _) _
      have hx := HB.out.at k hki hks
      obtain ⟨x, ex⟩ : ∃ x, s[k] = x := ⟨_, rfl⟩
      obtain ⟨y, ey⟩ : ∃ y, ix[k] = y := ⟨_, rfl⟩
      rw [ex] at c1 hx
      rw [ey] at c2 hx hset hbs
      have hyx : (y : Int) < (x : Int) := by omega
      have HSET := Lib.hid hset; have HBS := Lib.hid hbs
      obtain ⟨v3, c3'⟩ : ∃ v, wr.cell? ⟨w.heap.size + 2, k, none⟩ = some v := ⟨_, c3⟩
      clear ex ey hset hbs hx c3 hrow hb hlen
      go_wp2_with fail
      go_roundw
      case rel => exact ⟨k + 1, by omega, by go_num, HSET.out, HBS.out⟩
      case measure => simp [intOf]; omega
    · obtain rfl : k = n := by omega
      have e1 : ofN (ix.take k) ++ List.replicate (4 - k) 0 = ofN (pad ix) := by
        rw [List.take_of_length_le (by rw [HL.out]; exact Nat.le_refl _)]
        simp [pad, ofN, HL.out]
      rw [e1] at hrow
      have hl4 : (ofN (pad ix)).length = 4 := by rw [ofN_len]; exact pad_len ix (by rw [HL.out]; omega)
      obtain ⟨a0, a1, a2, a3, e2⟩ := list_four _ hl4
      have E2 := Lib.hid e2
      rw [e2] at hrow
      have c0 := hrow.cell 0 (by simp); have c1 := hrow.cell 1 (by simp); have c2 := hrow.cell 2 (by simp); have c3 := hrow.cell 3 (by simp)
      have r4 := R4.out.keep hb
      have d0 := r4.cell 0 (by simp); have d1 := r4.cell 1 (by simp); have d2 := r4.cell 2 (by simp); have d3 := r4.cell 3 (by simp)
      have f0 := r4.free 0; have f1 := r4.free 1; have f2 := r4.free 2; have f3 := r4.free 3
      simp only [List.getElem_cons_zero, List.getElem_cons_succ] at c0 c1 c2 c3 d0 d1 d2 d3
      have ST := Lib.hid (store_four r4 a0 a1 a2 a3)
      clear e1 hl4 e2 hrow r4
      go_wp2_with fail
      refine bodyPost_ret (v := .tuple #[.agg #[.int .i64 a0, .int .i64 a1, .int .i64 a2, .int .i64 a3], .bool true]) (by obtain ⟨s0, s1, s2, s3⟩ := ST.out; simp [results, Try.results53, go_sem, s0, s1, s2, s3]) rfl ⟨by rw [E2.out]; rfl, ?_⟩
      have hle : w.heap.size ≤ w.heap.size + 1 := Nat.le_succ _
      exact Below.setCell (Below.setCell (Below.setCell (Below.setCell (B12.out.trans hb) hle _) hle _) hle _) hle _
end Go.Proofs.Ytjinpngojdefiaa
