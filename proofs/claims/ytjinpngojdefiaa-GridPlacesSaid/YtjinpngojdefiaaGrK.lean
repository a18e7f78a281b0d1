/- Contracts of grids: indices that are none of the grid. -/
import Derived.Test.YtjinpngojdefiaaGrJ
import Derived.Deep.DeepCutAuto
namespace Go.Proofs.Ytjinpngojdefiaa
open Go.RowKit
set_option maxRecDepth 20000
set_option maxHeartbeats 3200000

/-- A list is an index of some sizes. -/
def isIx (s : List Nat) (il : List Int) : Prop := ∃ ix, il = ofN ix ∧ Gr.below ix s
theorem isIx_iff (s : List Nat) (il : List Int) : isIx s il ↔ il.length = s.length ∧ ∀ j (h1 : j < il.length) (h2 : j < s.length), 0 ≤ il[j] ∧ il[j] < ((s[j] : Nat) : Int) := by
  constructor
  · rintro ⟨ix, rfl, hb⟩
    refine ⟨by rw [ofN_len]; exact hb.length, fun j h1 h2 => ?_⟩
    rw [ofN_len] at h1
    have := hb.at j h1 h2
    simp [ofN]
    omega
  · rintro ⟨h1, h2⟩
    obtain ⟨ix, rfl⟩ := ofN_of il fun x hx => by
      obtain ⟨j, hj, rfl⟩ := List.mem_iff_getElem.1 hx
      exact (h2 j hj (by omega)).1
    refine ⟨ix, rfl, Gr.below_iff.2 ⟨by rw [ofN_len] at h1; exact h1, fun j a b => ?_⟩⟩
    have := (h2 j (by rw [ofN_len]; exact a) b).2
    simp [ofN] at this
    omega
theorem set_next (il : List Int) (k : Nat) (h : k < il.length) (h4 : il.length ≤ 4) : (il.take k ++ List.replicate (4 - k) 0).set k il[k] = il.take (k + 1) ++ List.replicate (4 - (k + 1)) 0 := by
  have e : 4 - k = (4 - (k + 1)) + 1 := by omega
  have hl : (il.take k).length = k := by rw [List.length_take]; omega
  rw [e, List.replicate_succ, List.take_succ_eq_append_getElem h, List.append_assoc, List.set_append_right _ _ (by omega), hl, Nat.sub_self]
  rfl

theorem spot_no (As Ad Ai : Option Addr) (cs cd m ci : Nat) (s : List Nat) (q : Int) (il : List Int) (w : World) (hs : Sz s) (hil : il.length ≤ 1000000) (hb : ¬ isIx s il) (h1 : Ls w .i64 As (ofN s)) (h2 : Ls w .i64 Ai il) :
    Calls Try.prog 53 #[.agg #[.slice As s.length cs, .int .i64 q, .slice Ad m cd], .slice Ai il.length ci] w fun e w' => e = .returned (.tuple #[.agg #[.int .i64 0, .int .i64 0, .int .i64 0, .int .i64 0], .bool false]) ∧ Bl w w' := by
  have HS := Lib.hid hs; have HNB := Lib.hid hb
  obtain ⟨n, hn⟩ : ∃ n, s.length = n := ⟨_, rfl⟩
  obtain ⟨k0, hk0⟩ : ∃ k, il.length = k := ⟨_, rfl⟩
  have n4 : (n : Int) ≤ 4 := by have := hs.1; omega
  have k6 : (k0 : Int) ≤ 1000000 := by omega
  have HN := Lib.hid hn; have HL := Lib.hid hk0
  rw [hn, hk0]
  clear hn hk0 hb hs hil
  have b1 := Bl.new w (.cells #[.slice As n cs, .int .i64 q, .slice Ad m cd] 74)
  have x0 := c_new w #[.slice As n cs, .int .i64 q, .slice Ad m cd] 74 0
  simp only [List.getElem?_toArray, List.getElem?_cons_zero] at x0
  have r4 := Rw.new (w.alloc (.cells #[.slice As n cs, .int .i64 q, .slice Ad m cd] 74)) [0, 0, 0, 0] 79
  have b2 := Bl.new (w.alloc (.cells #[.slice As n cs, .int .i64 q, .slice Ad m cd] 74)) (.cells (ints [0, 0, 0, 0]).toArray 79)
  have y0 := b2.cell x0
  have b12 := b1.trans b2
  have H1 := Lib.hid (h1.keep b12); have H2 := Lib.hid (h2.keep b12)
  have hsz : (w.alloc (.cells #[.slice As n cs, .int .i64 q, .slice Ad m cd] 74)).heap.size = w.heap.size + 1 := by simp
  have hsz2 : ((w.alloc (.cells #[.slice As n cs, .int .i64 q, .slice Ad m cd] 74)).alloc (.cells (ints [0, 0, 0, 0]).toArray 79)).heap.size = w.heap.size + 2 := by simp
  rw [hsz] at r4
  simp only [ints, List.map_cons, List.map_nil] at r4 b2 y0 b12 H1 H2 hsz2
  clear h1 h2 x0 b1 b2 hsz
  have r6 := Rw.new ((w.alloc (.cells #[.slice As n cs, .int .i64 q, .slice Ad m cd] 74)).alloc (.cells #[.int .i64 0, .int .i64 0, .int .i64 0, .int .i64 0] 79)) [0, 0, 0, 0] 79
  rw [hsz2] at r6
  simp only [ints, List.map_cons, List.map_nil] at r6
  by_cases hkn : k0 = n
  case neg =>
    have hne : ((k0 : Int) == (n : Int)) = false := by rw [beq_eq_false_iff_ne]; omega
    have hne' : ((k0 : Int) != (n : Int)) = true := by rw [bne_iff_ne]; omega
    clear hkn
    go_enter Try.func53, Try.ntmps53
    go_upto_region 3 with (fail)
    generalize (w.alloc (.cells #[.slice As n cs, .int .i64 q, .slice Ad m cd] 74)).alloc (.cells #[.int .i64 0, .int .i64 0, .int .i64 0, .int .i64 0] 79) = w5 at r4 y0 b12 H1 H2 hsz2 r6 ⊢
    have b6 := Bl.new w5 (.cells #[.int .i64 0, .int .i64 0, .int .i64 0, .int .i64 0] 79)
    generalize w5.alloc (.cells #[.int .i64 0, .int .i64 0, .int .i64 0, .int .i64 0] 79) = w6 at r6 b6 ⊢
    have r4 := r4.keep b6
    have d0 := r4.cell 0 (by simp); have d1 := r4.cell 1 (by simp); have d2 := r4.cell 2 (by simp); have d3 := r4.cell 3 (by simp)
    have f0 := r4.free 0; have f1 := r4.free 1; have f2 := r4.free 2; have f3 := r4.free 3
    simp only [List.getElem_cons_zero, List.getElem_cons_succ] at d0 d1 d2 d3
    have ST := Lib.hid (store_four r4 0 0 0 0)
    have HB := Lib.hid (b12.trans b6)
    clear r4 r6 b12 b6 y0 hsz2
    go_wp2_with fail
    refine bodyPost_ret (v := .tuple #[.agg #[.int .i64 0, .int .i64 0, .int .i64 0, .int .i64 0], .bool false]) (by obtain ⟨s0, s1, s2, s3⟩ := ST.out; simp [results, Try.results53, go_sem, s0, s1, s2, s3]) rfl ⟨rfl, ?_⟩
    have hle : w.heap.size ≤ w.heap.size + 1 := Nat.le_succ _
    exact Below.setCell (Below.setCell (Below.setCell (Below.setCell HB.out hle _) hle _) hle _) hle _
  subst hkn
  go_enter Try.func53, Try.ntmps53
  go_wp2_with fail
  generalize (w.alloc (.cells #[.slice As k0 cs, .int .i64 q, .slice Ad m cd] 74)).alloc (.cells #[.int .i64 0, .int .i64 0, .int .i64 0, .int .i64 0] 79) = w5 at r4 y0 b12 H1 H2 hsz2 r6 ⊢
  have b6 := Bl.new w5 (.cells #[.int .i64 0, .int .i64 0, .int .i64 0, .int .i64 0] 79)
  generalize w5.alloc (.cells #[.int .i64 0, .int .i64 0, .int .i64 0, .int .i64 0] 79) = w6 at r6 b6 ⊢
  have HZ := Lib.hid hsz2; have R4 := Lib.hid r4; have Y0 := Lib.hid y0; have B12 := Lib.hid b12
  clear hsz2 r4 y0 b12
  go_loopw [7, 8, 19] (fun _ _ i wr => ∃ k : Nat, k ≤ k0 ∧ i = .int .i64 (k : Int) ∧ (∀ j, j < k → (h1 : j < il.length) → (h2 : j < s.length) → 0 ≤ il[j] ∧ il[j] < ((s[j] : Nat) : Int)) ∧ Rw wr (w.heap.size + 2) (il.take k ++ List.replicate (4 - k) 0) ∧ Bl w5 wr) (fun _ _ i _ => k0 - (intOf i).toNat)
  case atStart => exact ⟨0, by omega, rfl, fun j hj => by omega, r6, b6⟩
  case round =>
    clear r6 b6
    obtain ⟨k, hk, rfl, hall, hrow, hb⟩ := hrel
    have HA := Lib.hid hall
    clear hall
    by_cases hlt : k < k0
    · have hlt' : (k : Int) < (k0 : Int) := by omega
      have hk4 : (k : Int) < 4 := by omega
      have hks : k < s.length := by rw [HN.out]; exact hlt
      have hki : k < il.length := by rw [HL.out]; exact hlt
      obtain ⟨b, o, rfl⟩ := H1.out.addr k (by rw [ofN_len]; exact hks)
      obtain ⟨b', o', rfl⟩ := H2.out.addr k hki
      have c0 := hb.cell Y0.out
      have c1 := (H1.out.keep hb).atN k hks
      have c2 := (H2.out.keep hb).at k hki
      have hlen : (il.take k ++ List.replicate (4 - k) 0).length = 4 := by simp; omega
      have c3 := hrow.cell k (by omega)
      have f3 := hrow.free k
      obtain ⟨v3, c3'⟩ : ∃ v, wr.cell? ⟨w.heap.size + 2, k, none⟩ = some v := ⟨_, c3⟩
      clear c3
      have HSZ := HS.out.at k hks
      by_cases hx : 0 ≤ il[k] ∧ il[k] < ((s[k] : Nat) : Int)
      · have HX := Lib.hid hx
        have hset := hrow.set k il[k] (by omega)
        rw [set_next il k hki (by rw [HL.out]; omega)] at hset
        have hbs : Bl w5 (wr.setCell ⟨w.heap.size + 2, k, none⟩ (.int .i64 il[k])) := Below.setCell hb (by rw [HZ.out]; exact Nat.le_refl _) _
        obtain ⟨x, ex⟩ : ∃ x, s[k] = x := ⟨_, rfl⟩
        obtain ⟨y, ey⟩ : ∃ y, il[k] = y := ⟨_, rfl⟩
        rw [ex] at c1 hx
        rw [ey] at c2 hx hset hbs
        obtain ⟨hy1, hy2⟩ := hx
        have HSET := Lib.hid hset; have HBS := Lib.hid hbs
        clear ex ey hset hbs hrow hb hlen HSZ
        go_wp2_with fail
        go_roundw
        case rel =>
          refine ⟨k + 1, by omega, by go_num, fun j hj h1 h2 => ?_, HSET.out, HBS.out⟩
          rcases Nat.lt_or_ge j k with h3 | h3
          · exact HA.out j h3 h1 h2
          · obtain rfl : j = k := by omega
            exact HX.out
        case measure => simp [intOf]; omega
      · have r4 := R4.out.keep hb
        have d0 := r4.cell 0 (by simp); have d1 := r4.cell 1 (by simp); have d2 := r4.cell 2 (by simp); have d3 := r4.cell 3 (by simp)
        have f0 := r4.free 0; have f1 := r4.free 1; have f2 := r4.free 2; have f4 := r4.free 3
        simp only [List.getElem_cons_zero, List.getElem_cons_succ] at d0 d1 d2 d3
        have ST := Lib.hid (store_four r4 0 0 0 0)
        have HB := Lib.hid (B12.out.trans hb)
        obtain ⟨x, ex⟩ : ∃ x, s[k] = x := ⟨_, rfl⟩
        obtain ⟨y, ey⟩ : ∃ y, il[k] = y := ⟨_, rfl⟩
        rw [ex] at c1 hx HSZ
        rw [ey] at c2 hx
        by_cases hy : y < 0
        all_goals
          first | (have hy2 : (x : Int) ≤ y := by omega) | skip
          clear hx r4 hrow hb ex ey hlen
          go_wp2_with fail
          refine bodyPost_ret (v := .tuple #[.agg #[.int .i64 0, .int .i64 0, .int .i64 0, .int .i64 0], .bool false]) (by obtain ⟨s0, s1, s2, s3⟩ := ST.out; simp [results, Try.results53, go_sem, s0, s1, s2, s3]) rfl ⟨rfl, ?_⟩
          have hle : w.heap.size ≤ w.heap.size + 1 := Nat.le_succ _
          exact Below.setCell (Below.setCell (Below.setCell (Below.setCell HB.out hle _) hle _) hle _) hle _
    · obtain rfl : k = k0 := by omega
      exact absurd ((isIx_iff s il).2 ⟨by rw [HL.out, HN.out], fun j h1 h2 => HA.out j (by rw [← HL.out]; exact h1) h1 h2⟩) HNB.out
end Go.Proofs.Ytjinpngojdefiaa
