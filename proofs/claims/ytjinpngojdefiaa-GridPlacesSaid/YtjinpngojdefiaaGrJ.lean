/- Contracts of grids: Check of any grid. -/
import Derived.Test.YtjinpngojdefiaaGrF
namespace Go.Proofs.Ytjinpngojdefiaa
open Go.RowKit
set_option maxRecDepth 20000
set_option maxHeartbeats 3200000

/-- A list of integers none of which is negative. -/
theorem ofN_of (l : List Int) (h : ∀ x ∈ l, 0 ≤ x) : ∃ s, l = ofN s := by
  refine ⟨l.map Int.toNat, ?_⟩
  apply List.ext_getElem
  · simp [ofN]
  · intro i h1 h2
    have := h l[i] (List.getElem_mem h1)
    simp [ofN]
    omega
/-- What a valid grid is, of any lists. -/
def okG (sl : List Int) (q : Int) (dl : List Int) : Prop := ∃ s q' d, sl = ofN s ∧ q = ((q' : Nat) : Int) ∧ dl = ofN d ∧ GrOk s q' d
/-- What Check answers. -/
def ChkRes (sl : List Int) (q : Int) (dl : List Int) (w : World) (e : Ending) (w' : World) : Prop := ∃ c, e = .returned (.int .i64 c) ∧ ((c = 0 ∧ okG sl q dl) ∨ (c = 100 ∧ ¬ okG sl q dl)) ∧ Bl w w'
theorem okG.sizes {sl : List Int} {q : Int} {dl : List Int} (h : okG sl q dl) : 1 ≤ sl.length ∧ sl.length ≤ 4 ∧ 1 ≤ q ∧ q ≤ 4 ∧ (∀ x ∈ sl, 2 ≤ x ∧ x ≤ 9) ∧ dl.length ≤ 4096 ∧ ∀ x ∈ dl, 0 ≤ x ∧ x ≤ 65535 := by
  obtain ⟨s, q', d, rfl, rfl, rfl, hg⟩ := h
  refine ⟨by rw [ofN_len]; exact hg.one, by rw [ofN_len]; exact hg.sz.1, by have := hg.q1; omega, by have := hg.q4; omega, fun x hx => ?_, by rw [ofN_len]; exact hg.most, fun x hx => ?_⟩
  · obtain ⟨n, hn, rfl⟩ := List.mem_map.1 hx
    have := hg.sz.2 n hn
    omega
  · obtain ⟨n, hn, rfl⟩ := List.mem_map.1 hx
    have := hg.full n hn
    omega
theorem ofN_inj {a b : List Nat} (h : ofN a = ofN b) : a = b := by
  apply List.ext_getElem
  · have := congrArg List.length h
    simpa [ofN] using this
  · intro i h1 h2
    have := congrArg (fun l => l[i]?) h
    simp [ofN, h1, h2] at this
    omega

theorem check_any (As Ad : Option Addr) (cs cd : Nat) (sl : List Int) (q : Int) (dl : List Int) (w : World) (hl1 : sl.length ≤ 1000000) (hl2 : dl.length ≤ 1000000) (h1 : Ls w .i64 As sl) (h2 : Ls w .i64 Ad dl) :
    Calls Try.prog 14 #[.agg #[.slice As sl.length cs, .int .i64 q, .slice Ad dl.length cd]] w (ChkRes sl q dl w) := by
  obtain ⟨n, hn⟩ : ∃ n, sl.length = n := ⟨_, rfl⟩
  obtain ⟨m, hm⟩ : ∃ m, dl.length = m := ⟨_, rfl⟩
  have n6 : (n : Int) ≤ 1000000 := by omega
  have m6 : (m : Int) ≤ 1000000 := by omega
  have HN := Lib.hid hn; have HM := Lib.hid hm
  rw [hn, hm]
  clear hn hm hl1 hl2
  have hb := Bl.new w (.cells #[.slice As n cs, .int .i64 q, .slice Ad m cd] 24)
  have x0 := c_new w #[.slice As n cs, .int .i64 q, .slice Ad m cd] 24 0
  have x1 := c_new w #[.slice As n cs, .int .i64 q, .slice Ad m cd] 24 1
  have x2 := c_new w #[.slice As n cs, .int .i64 q, .slice Ad m cd] 24 2
  simp only [List.getElem?_toArray, List.getElem?_cons_zero, List.getElem?_cons_succ] at x0 x1 x2
  have H1 := Lib.hid (h1.keep hb); have H2 := Lib.hid (h2.keep hb)
  clear h1 h2
  by_cases a1 : 1 ≤ (n : Int)
  case neg =>
    have HX := Lib.hid (show ¬ okG sl q dl from fun h => a1 (by have := h.sizes.1; have := HN.out; omega))
    have hn0 : (n : Int) < 1 := by omega
    go_enter Try.func14, Try.ntmps14
    go_wp2_with fail
    go_ret
    exact ⟨100, rfl, .inr ⟨rfl, HX.out⟩, hb⟩
  by_cases a2 : (n : Int) ≤ 4
  case neg =>
    have HX := Lib.hid (show ¬ okG sl q dl from fun h => a2 (by have := h.sizes.2.1; have := HN.out; omega))
    have hn0 : 4 < (n : Int) := by omega
    go_enter Try.func14, Try.ntmps14
    go_wp2_with fail
    go_ret
    exact ⟨100, rfl, .inr ⟨rfl, HX.out⟩, hb⟩
  by_cases a3 : 1 ≤ q
  case neg =>
    have HX := Lib.hid (show ¬ okG sl q dl from fun h => a3 h.sizes.2.2.1)
    have hn0 : q < 1 := by omega
    go_enter Try.func14, Try.ntmps14
    go_wp2_with fail
    go_ret
    exact ⟨100, rfl, .inr ⟨rfl, HX.out⟩, hb⟩
  by_cases a4 : q ≤ 4
  case neg =>
    have HX := Lib.hid (show ¬ okG sl q dl from fun h => a4 h.sizes.2.2.2.1)
    have hn0 : 4 < q := by omega
    go_enter Try.func14, Try.ntmps14
    go_wp2_with fail
    go_ret
    exact ⟨100, rfl, .inr ⟨rfl, HX.out⟩, hb⟩
  go_enter Try.func14, Try.ntmps14
  go_wp2_with fail
  generalize w.alloc (.cells #[.slice As n cs, .int .i64 q, .slice Ad m cd] 24) = w0 at hb x0 x1 x2 H1 H2 ⊢
  go_loop [4, 30] (fun _ i => ∃ k : Nat, k ≤ n ∧ i = .int .i64 (k : Int) ∧ ∀ j, j < k → (h : j < sl.length) → 2 ≤ sl[j] ∧ sl[j] ≤ 9) (fun _ i => n - (intOf i).toNat)
  case atStart => exact ⟨0, by omega, rfl, fun j hj => by omega⟩
  case round =>
    obtain ⟨k, hk, rfl, hall⟩ := hrel
    have HA := Lib.hid hall
    clear hall
    by_cases hlt : k < n
    · have hlt' : (k : Int) < (n : Int) := by omega
      have hks : k < sl.length := by rw [HN.out]; exact hlt
      obtain ⟨b, o, rfl⟩ := H1.out.addr k hks
      have c1 := H1.out.at k hks
      by_cases hx : 2 ≤ sl[k] ∧ sl[k] ≤ 9
      · have HX := Lib.hid hx
        obtain ⟨x, ex⟩ : ∃ x, sl[k] = x := ⟨_, rfl⟩
        rw [ex] at c1 hx
        obtain ⟨hx1, hx2⟩ := hx
        clear ex
        go_wp2_with fail
        go_round
        case rel =>
          refine ⟨k + 1, by omega, by go_num, fun j hj h => ?_⟩
          rcases Nat.lt_or_ge j k with h3 | h3
          · exact HA.out j h3 h
          · obtain rfl : j = k := by omega
            exact HX.out
        case measure => simp [intOf]; omega
      · have HX := Lib.hid (show ¬ okG sl q dl from fun h => hx (h.sizes.2.2.2.2.1 _ (List.getElem_mem hks)))
        obtain ⟨x, ex⟩ : ∃ x, sl[k] = x := ⟨_, rfl⟩
        rw [ex] at c1 hx
        clear ex
        by_cases hx1 : x < 2
        all_goals
          first | (have hx2 : 9 < x := by omega) | skip
          clear hx
          go_wp2_with fail
          go_ret
          exact ⟨100, rfl, .inr ⟨rfl, HX.out⟩, hb⟩
    · obtain rfl : k = n := by omega
      obtain ⟨s, rfl⟩ := ofN_of sl fun x hx => by
        obtain ⟨j, hj, rfl⟩ := List.mem_iff_getElem.1 hx
        have := HA.out j (by rw [← HN.out]; exact hj) hj
        omega
      obtain ⟨qn, rfl⟩ : ∃ qn : Nat, q = (qn : Int) := ⟨q.toNat, by omega⟩
      have hsz : Sz s := ⟨by have := HN.out; rw [ofN_len] at this; omega, fun x hx => by
        obtain ⟨j, hj, rfl⟩ := List.mem_iff_getElem.1 hx
        have h4 : j < (ofN s).length := by rw [ofN_len]; exact hj
        have := HA.out j (by rw [← HN.out]; exact h4) h4
        simp [ofN] at this
        omega⟩
      have P := fun w h => product_ok qn As cs s w (by omega) hsz h
      have hns : s.length = k := by have := HN.out; rwa [ofN_len] at this
      rw [hns] at P
      have HNS := Lib.hid hns; have HSZ := Lib.hid hsz
      clear hns hsz hlt
      obtain ⟨pr, hpr⟩ : ∃ pr, qn * Gr.prod s = pr := ⟨_, rfl⟩
      rw [hpr] at P
      have HPR := Lib.hid hpr
      clear hpr
      by_cases b1 : (m : Int) ≤ 4096
      case neg =>
        have HX := Lib.hid (show ¬ okG (ofN s) (qn : Int) dl from fun h => b1 (by have := h.sizes.2.2.2.2.2.1; have := HM.out; omega))
        have hm4 : decide (4096 < (m : Int)) = true := by simp; omega
        go_wp2_with fail
        go_quiet (fail)
        go_wp2_with fail
        go_ret
        exact ⟨100, rfl, .inr ⟨rfl, HX.out⟩, hb.drewN nq⟩
      have hm4 : decide (4096 < (m : Int)) = false := by simp; omega
      by_cases b2 : m = pr
      case neg =>
        have HX := Lib.hid (show ¬ okG (ofN s) (qn : Int) dl from fun ⟨s', q', d', e1, e2, e3, hg⟩ => b2 (by
          obtain rfl := ofN_inj e1
          obtain rfl : qn = q' := by omega
          rw [← HM.out, e3, ofN_len, ← hg.len, HPR.out]))
        have hne : ((m : Int) == (pr : Int)) = false := by rw [beq_eq_false_iff_ne]; omega
        have hne' : ((m : Int) != (pr : Int)) = true := by rw [bne_iff_ne]; omega
        clear b2
        go_wp2_with fail
        go_quiet ((go_at_call_of 38 (Value.int IntKind.i64 (qn : Int)); exact Calls.quiet_of_same (P _ H1.out)))
        go_wp2_with fail
        go_ret
        exact ⟨100, rfl, .inr ⟨rfl, HX.out⟩, hb.drewN nq⟩
      subst b2
      have hmm : ((m : Int) == (m : Int)) = true := by simp
      go_wp2_with fail
      go_quiet ((go_at_call_of 38 (Value.int IntKind.i64 (qn : Int)); exact Calls.quiet_of_same (P _ H1.out)))
      have hbq := hb.drewN nq
      have x2q : (w0.drewN nq).cell? ⟨w.heap.size, 2, none⟩ = some (.slice Ad m cd) := x2
      have H2q := Lib.hid (H2.out.keep ((Bl.refl w0).drewN nq))
      clear hb x0 x1 x2 H1 H2 P
      generalize w0.drewN nq = w1 at hbq x2q H2q ⊢
      go_wp2_with fail
      go_loop [6, 59] (fun _ i => ∃ k : Nat, k ≤ m ∧ i = .int .i64 (k : Int) ∧ ∀ j, j < k → (h : j < dl.length) → 0 ≤ dl[j] ∧ dl[j] ≤ 65535) (fun _ i => m - (intOf i).toNat)
      case atStart => exact ⟨0, by omega, rfl, fun j hj => by omega⟩
      case round =>
        obtain ⟨j, hj, rfl, hall⟩ := hrel
        have HD := Lib.hid hall
        clear hall
        by_cases hlt2 : j < m
        · have hlt' : (j : Int) < (m : Int) := by omega
          have hjs : j < dl.length := by rw [HM.out]; exact hlt2
          obtain ⟨b, o, rfl⟩ := H2q.out.addr j hjs
          have c1 := H2q.out.at j hjs
          by_cases hx : 0 ≤ dl[j] ∧ dl[j] ≤ 65535
          · have HX := Lib.hid hx
            obtain ⟨x, ex⟩ : ∃ x, dl[j] = x := ⟨_, rfl⟩
            rw [ex] at c1 hx
            obtain ⟨hx1, hx2⟩ := hx
            clear ex
            go_wp2_with fail
            go_round
            case rel =>
              refine ⟨j + 1, by omega, by go_num, fun i hi h => ?_⟩
              rcases Nat.lt_or_ge i j with h3 | h3
              · exact HD.out i h3 h
              · obtain rfl : i = j := by omega
                exact HX.out
            case measure => simp [intOf]; omega
          · have HX := Lib.hid (show ¬ okG (ofN s) (qn : Int) dl from fun h => hx (h.sizes.2.2.2.2.2.2 _ (List.getElem_mem hjs)))
            obtain ⟨x, ex⟩ : ∃ x, dl[j] = x := ⟨_, rfl⟩
            rw [ex] at c1 hx
            clear ex
            by_cases hx1 : x < 0
            all_goals
              first | (have hx2 : 65535 < x := by omega) | skip
              clear hx
              go_wp2_with fail
              go_ret
              exact ⟨100, rfl, .inr ⟨rfl, HX.out⟩, hbq⟩
        · obtain rfl : j = m := by omega
          have HY := Lib.hid (show okG (ofN s) (qn : Int) dl from by
            obtain ⟨d, rfl⟩ := ofN_of dl fun x hx => by
              obtain ⟨i, hi, rfl⟩ := List.mem_iff_getElem.1 hx
              exact (HD.out i (by rw [← HM.out]; exact hi) hi).1
            refine ⟨s, qn, d, rfl, rfl, rfl, HSZ.out, by have := HNS.out; omega, by omega, by omega, by have := HM.out; rw [ofN_len] at this; rw [HPR.out, this], by have := HM.out; rw [ofN_len] at this; omega, fun v hv => ?_⟩
            obtain ⟨i, hi, rfl⟩ := List.mem_iff_getElem.1 hv
            have h4 : i < (ofN d).length := by rw [ofN_len]; exact hi
            have := (HD.out i (by rw [← HM.out]; exact h4) h4).2
            simp [ofN] at this
            omega)
          go_wp2_with fail
          go_ret
          exact ⟨0, rfl, .inl ⟨rfl, HY.out⟩, hbq⟩
end Go.Proofs.Ytjinpngojdefiaa
