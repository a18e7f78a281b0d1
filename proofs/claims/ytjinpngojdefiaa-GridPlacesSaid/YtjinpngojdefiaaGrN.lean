/- Contracts of grids: the reference's Right, Place and At. -/
import Derived.Test.YtjinpngojdefiaaGrL
namespace Go.Proofs.Ytjinpngojdefiaa
open Go.RowKit
set_option maxRecDepth 20000
set_option maxHeartbeats 3200000

theorem within_yes (n a b : Int) (w : World) (h1 : a ≤ n) (h2 : n ≤ b) :
    Calls Try.prog 48 #[.int .i64 n, .int .i64 a, .int .i64 b] w fun e w' => e = .returned (.bool true) ∧ w' = w := by
  have d1 : decide (a ≤ n) = true := by simpa using h1
  have d2 : decide (n ≤ b) = true := by simpa using h2
  go_enter Try.func48, Try.ntmps48
  go_wp2_with fail
  go_ret
  exact ⟨rfl, rfl⟩
theorem within_no (n a b : Int) (w : World) (h : ¬ (a ≤ n ∧ n ≤ b)) :
    Calls Try.prog 48 #[.int .i64 n, .int .i64 a, .int .i64 b] w fun e w' => e = .returned (.bool false) ∧ w' = w := by
  by_cases h1 : a ≤ n
  · have d1 : decide (a ≤ n) = true := by simpa using h1
    have d2 : decide (n ≤ b) = false := by simp; omega
    clear h
    go_enter Try.func48, Try.ntmps48
    go_wp2_with fail
    go_ret
    exact ⟨rfl, rfl⟩
  · have d1 : decide (a ≤ n) = false := by simpa using h1
    clear h
    go_enter Try.func48, Try.ntmps48
    go_wp2_with fail
    go_ret
    exact ⟨rfl, rfl⟩

/-- What Right answers. -/
def RightRes (sl : List Int) (q : Int) (dl : List Int) (w : World) (e : Ending) (w' : World) : Prop := ∃ b, e = .returned (.bool b) ∧ ((b = true ∧ okG sl q dl) ∨ (b = false ∧ ¬ okG sl q dl)) ∧ Bl w w'
theorem right_any (As Ad : Option Addr) (cs cd : Nat) (sl : List Int) (q : Int) (dl : List Int) (w : World) (hl1 : sl.length ≤ 1000000) (hl2 : dl.length ≤ 1000000) (h1 : Ls w .i64 As sl) (h2 : Ls w .i64 Ad dl) :
    Calls Try.prog 37 #[.agg #[.slice As sl.length cs, .int .i64 q, .slice Ad dl.length cd]] w (RightRes sl q dl w) := by
  obtain ⟨n, hn⟩ : ∃ n, sl.length = n := ⟨_, rfl⟩
  obtain ⟨m, hm⟩ : ∃ m, dl.length = m := ⟨_, rfl⟩
  have n6 : (n : Int) ≤ 1000000 := by omega
  have m6 : (m : Int) ≤ 1000000 := by omega
  have HN := Lib.hid hn; have HM := Lib.hid hm
  rw [hn, hm]
  clear hn hm hl1 hl2
  have hb := Bl.new w (.cells #[.slice As n cs, .int .i64 q, .slice Ad m cd] 24)
  have x0 := c_new w #[.slice As n cs, .int .i64 q, .slice Ad m cd] 24 0
  have x1 := c_new w #[.slice As n cs, .int .i64 q, .slice Ad m cd] 24 1
  have x2 := c_new w #[.slice As n cs, .int .i64 q, .slice Ad m cd] 24 2
  simp only [List.getElem?_toArray, List.getElem?_cons_zero, List.getElem?_cons_succ] at x0 x1 x2
  have H1 := Lib.hid (h1.keep hb); have H2 := Lib.hid (h2.keep hb)
  clear h1 h2
  go_enter Try.func37, Try.ntmps37
  go_wp2_with fail
  generalize w.alloc (.cells #[.slice As n cs, .int .i64 q, .slice Ad m cd] 24) = w0 at hb x0 x1 x2 H1 H2 ⊢
  by_cases a1 : 1 ≤ (n : Int) ∧ (n : Int) ≤ 4
  case neg =>
    have HX := Lib.hid (show ¬ okG sl q dl from fun h => a1 (by have := h.sizes.1; have := h.sizes.2.1; have := HN.out; omega))
    refine (within_no _ _ _ _ a1).mono ?_
    clear a1
    rintro e w' ⟨rfl, rfl⟩
    go_wp2_with fail
    go_ret
    exact ⟨false, rfl, .inr ⟨rfl, HX.out⟩, hb⟩
  refine (within_yes _ _ _ _ a1.1 a1.2).mono ?_
  rintro e w' ⟨rfl, rfl⟩
  obtain ⟨a1, a2⟩ := a1
  go_wp2_with fail
  by_cases a3 : 1 ≤ q ∧ q ≤ 4
  case neg =>
    have HX := Lib.hid (show ¬ okG sl q dl from fun h => a3 (by have := h.sizes.2.2.1; have := h.sizes.2.2.2.1; omega))
    refine (within_no _ _ _ _ a3).mono ?_
    clear a3
    rintro e w1 ⟨rfl, rfl⟩
    go_wp2_with fail
    go_ret
    exact ⟨false, rfl, .inr ⟨rfl, HX.out⟩, hb⟩
  refine (within_yes _ _ _ _ a3.1 a3.2).mono ?_
  rintro e w1 ⟨rfl, rfl⟩
  obtain ⟨a3, a4⟩ := a3
  go_wp2_with fail
  go_loop [3] (fun i => ∃ k : Nat, k ≤ n ∧ i = .int .i64 (k : Int) ∧ ∀ j, j < k → (h : j < sl.length) → 2 ≤ sl[j] ∧ sl[j] ≤ 9) (fun i => n - (intOf i).toNat)
  case atStart => exact ⟨0, by omega, rfl, fun j hj => by omega⟩
  case round =>
    obtain ⟨k, hk, rfl, hall⟩ := hrel
    have HA := Lib.hid hall
    clear hall
    by_cases hlt : k < n
    · have hlt' : (k : Int) < (n : Int) := by omega
      have hks : k < sl.length := by rw [HN.out]; exact hlt
      obtain ⟨b, o, rfl⟩ := H1.out.addr k hks
      have c1 := H1.out.at k hks
      go_wp2_with fail
      by_cases hx : 2 ≤ sl[k] ∧ sl[k] ≤ 9
      · have HX := Lib.hid hx
        refine (within_yes _ _ _ _ hx.1 hx.2).mono ?_
        clear hx
        rintro e w2 ⟨rfl, rfl⟩
        go_wp2_with fail
        go_round
        case rel =>
          refine ⟨k + 1, by omega, by go_num, fun j hj h => ?_⟩
          rcases Nat.lt_or_ge j k with h3 | h3
          · exact HA.out j h3 h
          · obtain rfl : j = k := by omega
            exact HX.out
        case measure => simp [intOf]; omega
      · have HX := Lib.hid (show ¬ okG sl q dl from fun h => hx (h.sizes.2.2.2.2.1 _ (List.getElem_mem hks)))
        refine (within_no _ _ _ _ hx).mono ?_
        clear hx
        rintro e w2 ⟨rfl, rfl⟩
        go_wp2_with fail
        go_ret
        exact ⟨false, rfl, .inr ⟨rfl, HX.out⟩, hb⟩
    · obtain rfl : k = n := by omega
      obtain ⟨s, rfl⟩ := ofN_of sl fun x hx => by
        obtain ⟨j, hj, rfl⟩ := List.mem_iff_getElem.1 hx
        have := HA.out j (by rw [← HN.out]; exact hj) hj
        omega
      obtain ⟨qn, rfl⟩ : ∃ qn : Nat, q = (qn : Int) := ⟨q.toNat, by omega⟩
      have hsz : Sz s := ⟨by have := HN.out; rw [ofN_len] at this; omega, fun x hx => by
        obtain ⟨j, hj, rfl⟩ := List.mem_iff_getElem.1 hx
        have h4 : j < (ofN s).length := by rw [ofN_len]; exact hj
        have := HA.out j (by rw [← HN.out]; exact h4) h4
        simp [ofN] at this
        omega⟩
      have P := fun w h => points_ok As cs s w hsz h
      have hns : s.length = k := by have := HN.out; rwa [ofN_len] at this
      have hpb := hsz.take s.length
      rw [List.take_length] at hpb
      rw [hns] at P
      have HNS := Lib.hid hns; have HSZ := Lib.hid hsz
      clear hns hsz hlt
      obtain ⟨pr, hpr⟩ : ∃ pr, Gr.prod s = pr := ⟨_, rfl⟩
      rw [hpr] at P hpb
      obtain ⟨M, hM⟩ : ∃ M, qn * pr = M := ⟨_, rfl⟩
      have hMb : M ≤ 4 * 6561 := by rw [← hM]; exact Nat.mul_le_mul (by omega) hpb
      have e1 : (pr : Int) * (qn : Int) = (M : Int) := by rw [← hM, Int.natCast_mul, Int.mul_comm]
      have HPR := Lib.hid (show qn * Gr.prod s = M by rw [hpr, hM])
      clear hpr hM
      by_cases b2 : m = M
      case neg =>
        have HX := Lib.hid (show ¬ okG (ofN s) (qn : Int) dl from fun ⟨s', q', d', e1, e2, e3, hg⟩ => b2 (by
          obtain rfl := ofN_inj e1
          obtain rfl : qn = q' := by omega
          rw [← HM.out, e3, ofN_len, ← hg.len, HPR.out]))
        have hne : ((m : Int) == (M : Int)) = false := by rw [beq_eq_false_iff_ne]; omega
        have hne' : ((m : Int) != (M : Int)) = true := by rw [bne_iff_ne]; omega
        have e2 : IntKind.i64.wrap (M : Int) = (M : Int) := IntWalk.i64_in _ (by omega)
        clear b2
        go_upto_region 8 with (fail)
        go_quiet ((go_at_call 49; exact Calls.quiet_of_same (P _ H1.out)))
        clear e1 e2
        go_wp2_with fail
        go_ret
        exact ⟨false, rfl, .inr ⟨rfl, HX.out⟩, hb.drewN nq⟩
      subst b2
      have hmm : ((m : Int) == (m : Int)) = true := by simp
      have e2 : IntKind.i64.wrap (m : Int) = (m : Int) := IntWalk.i64_in _ (by omega)
      by_cases b1 : (m : Int) ≤ 4096
      case neg =>
        have HX := Lib.hid (show ¬ okG (ofN s) (qn : Int) dl from fun h => b1 (by have := h.sizes.2.2.2.2.2.1; have := HM.out; omega))
        have hm4 : decide (4096 < (m : Int)) = true := by simp; omega
        go_upto_region 8 with (fail)
        go_quiet ((go_at_call 49; exact Calls.quiet_of_same (P _ H1.out)))
        clear e1 e2
        go_wp2_with fail
        go_ret
        exact ⟨false, rfl, .inr ⟨rfl, HX.out⟩, hb.drewN nq⟩
      have hm4 : decide (4096 < (m : Int)) = false := by simp; omega
      go_upto_region 8 with (fail)
      go_quiet ((go_at_call 49; exact Calls.quiet_of_same (P _ H1.out)))
      clear e1 e2
      have hbq := hb.drewN nq
      have x2q : (w1.drewN nq).cell? ⟨w.heap.size, 2, none⟩ = some (.slice Ad m cd) := x2
      have H2q := Lib.hid (H2.out.keep ((Bl.refl w1).drewN nq))
      clear hb x0 x1 x2 H1 H2 P
      generalize w1.drewN nq = w9 at hbq x2q H2q ⊢
      go_wp2_with fail
      go_loop [4] (fun i => ∃ k : Nat, k ≤ m ∧ i = .int .i64 (k : Int) ∧ ∀ j, j < k → (h : j < dl.length) → 0 ≤ dl[j] ∧ dl[j] ≤ 65535) (fun i => m - (intOf i).toNat)
      case atStart => exact ⟨0, by omega, rfl, fun j hj => by omega⟩
      case round =>
        obtain ⟨j, hj, rfl, hall⟩ := hrel
        have HD := Lib.hid hall
        clear hall
        by_cases hlt2 : j < m
        · have hlt' : (j : Int) < (m : Int) := by omega
          have hjs : j < dl.length := by rw [HM.out]; exact hlt2
          obtain ⟨b, o, rfl⟩ := H2q.out.addr j hjs
          have c1 := H2q.out.at j hjs
          go_wp2_with fail
          by_cases hx : 0 ≤ dl[j] ∧ dl[j] ≤ 65535
          · have HX := Lib.hid hx
            refine (within_yes _ _ _ _ hx.1 hx.2).mono ?_
            clear hx
            rintro e w2 ⟨rfl, rfl⟩
            go_wp2_with fail
            go_round
            case rel =>
              refine ⟨j + 1, by omega, by go_num, fun i hi h => ?_⟩
              rcases Nat.lt_or_ge i j with h3 | h3
              · exact HD.out i h3 h
              · obtain rfl : i = j := by omega
                exact HX.out
            case measure => simp [intOf]; omega
          · have HX := Lib.hid (show ¬ okG (ofN s) (qn : Int) dl from fun h => hx (h.sizes.2.2.2.2.2.2 _ (List.getElem_mem hjs)))
            refine (within_no _ _ _ _ hx).mono ?_
            clear hx
            rintro e w2 ⟨rfl, rfl⟩
            go_wp2_with fail
            go_ret
            exact ⟨false, rfl, .inr ⟨rfl, HX.out⟩, hbq⟩
        · obtain rfl : j = m := by omega
          have HY := Lib.hid (show okG (ofN s) (qn : Int) dl from by
            obtain ⟨d, rfl⟩ := ofN_of dl fun x hx => by
              obtain ⟨i, hi, rfl⟩ := List.mem_iff_getElem.1 hx
              exact (HD.out i (by rw [← HM.out]; exact hi) hi).1
            refine ⟨s, qn, d, rfl, rfl, rfl, HSZ.out, by have := HNS.out; omega, by omega, by omega, by have := HM.out; rw [ofN_len] at this; rw [HPR.out, this], by have := HM.out; rw [ofN_len] at this; omega, fun v hv => ?_⟩
            obtain ⟨i, hi, rfl⟩ := List.mem_iff_getElem.1 hv
            have h4 : i < (ofN d).length := by rw [ofN_len]; exact hi
            have := (HD.out i (by rw [← HM.out]; exact h4) h4).2
            simp [ofN] at this
            omega)
          go_wp2_with fail
          go_ret
          exact ⟨true, rfl, .inl ⟨rfl, HY.out⟩, hbq⟩
end Go.Proofs.Ytjinpngojdefiaa
