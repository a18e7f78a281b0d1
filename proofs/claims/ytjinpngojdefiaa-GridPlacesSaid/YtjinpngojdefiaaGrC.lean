/- Contracts of grids: what is valid, places, indices read. -/
import Derived.Test.YtjinpngojdefiaaGrB
namespace Go.Proofs.Ytjinpngojdefiaa
open Go.RowKit
set_option maxRecDepth 20000
set_option maxHeartbeats 3200000

/-- A valid grid. -/
structure GrOk (s : List Nat) (q : Nat) (d : List Nat) : Prop where
  sz : Sz s
  one : 1 ≤ s.length
  q1 : 1 ≤ q
  q4 : q ≤ 4
  len : q * Gr.prod s = d.length
  most : d.length ≤ 4096
  full : ∀ v ∈ d, v ≤ 65535
/-- A grid as a value. -/
def gridV (As Ad : Option Addr) (cs cd n m : Nat) (q : Int) : List Value := [.slice As n cs, .int .i64 q, .slice Ad m cd]

theorem check_yes (As Ad : Option Addr) (cs cd : Nat) (s : List Nat) (q : Nat) (d : List Nat) (w : World) (hg : GrOk s q d) (h1 : Ls w .i64 As (ofN s)) (h2 : Ls w .i64 Ad (ofN d)) :
    Calls Try.prog 14 #[.agg #[.slice As s.length cs, .int .i64 (q : Int), .slice Ad d.length cd]] w fun e w' => e = .returned (.int .i64 0) ∧ Bl w w' := by
  have HG := Lib.hid hg
  have P := fun w h => product_ok q As cs s w hg.q4 hg.sz h
  rw [hg.len] at P
  obtain ⟨n, hn⟩ : ∃ n, s.length = n := ⟨_, rfl⟩
  obtain ⟨m, hm⟩ : ∃ m, d.length = m := ⟨_, rfl⟩
  have q1 : 1 ≤ (q : Int) := by have := hg.q1; omega
  have q4 : (q : Int) ≤ 4 := by have := hg.q4; omega
  have n1 : 1 ≤ (n : Int) := by have := hg.one; omega
  have n4 : (n : Int) ≤ 4 := by have := hg.sz.1; omega
  have m4 : (m : Int) ≤ 4096 := by have := hg.most; omega
  have HN := Lib.hid hn; have HM := Lib.hid hm
  rw [hn, hm] at P ⊢
  clear hn hm hg
  have hb := Bl.new w (.cells #[.slice As n cs, .int .i64 (q : Int), .slice Ad m cd] 24)
  have x0 := c_new w #[.slice As n cs, .int .i64 (q : Int), .slice Ad m cd] 24 0
  have x1 := c_new w #[.slice As n cs, .int .i64 (q : Int), .slice Ad m cd] 24 1
  have x2 := c_new w #[.slice As n cs, .int .i64 (q : Int), .slice Ad m cd] 24 2
  simp only [List.getElem?_toArray, List.getElem?_cons_zero, List.getElem?_cons_succ] at x0 x1 x2
  have H1 := Lib.hid (h1.keep hb); have H2 := Lib.hid (h2.keep hb)
  clear h1 h2
  go_enter Try.func14, Try.ntmps14
  go_wp2_with fail
  generalize w.alloc (.cells #[.slice As n cs, .int .i64 (q : Int), .slice Ad m cd] 24) = w0 at hb x0 x1 x2 H1 H2 ⊢
  go_loop [4, 30] (fun _ i => ∃ k : Nat, k ≤ n ∧ i = .int .i64 (k : Int)) (fun _ i => n - (intOf i).toNat)
  case atStart => exact ⟨0, by omega, rfl⟩
  case round =>
    obtain ⟨k, hk, rfl⟩ := hrel
    by_cases hlt : k < n
    · have hlt' : (k : Int) < (n : Int) := by omega
      have hks : k < s.length := by rw [HN.out]; exact hlt
      obtain ⟨b, o, rfl⟩ := H1.out.addr k (by rw [ofN_len]; exact hks)
      have c1 := H1.out.atN k hks
      have hx := HG.out.sz.at k hks
      obtain ⟨x, ex⟩ : ∃ x, s[k] = x := ⟨_, rfl⟩
      rw [ex] at c1 hx
      have hx1 : (2 : Int) ≤ (x : Int) := by omega
      have hx2 : (x : Int) ≤ 9 := by omega
      clear ex hx
      go_wp2_with fail
      go_round
      case rel => exact ⟨k + 1, by omega, by go_num⟩
      case measure => simp [intOf]; omega
    · obtain rfl : k = n := by omega
      have hmm : ((m : Int) == (m : Int)) = true := by simp
      have hm4 : decide (4096 < (m : Int)) = false := by simp; omega
      go_wp2_with fail
      go_quiet ((go_at_call_of 38 (Value.int IntKind.i64 (q : Int)); exact Calls.quiet_of_same (P _ H1.out)))
      have hbq := hb.drewN nq
      have x2q : (w0.drewN nq).cell? ⟨w.heap.size, 2, none⟩ = some (.slice Ad m cd) := x2
      have H2q := Lib.hid (H2.out.keep ((Bl.refl w0).drewN nq))
      clear hb x0 x1 x2 H1 H2 P
      generalize w0.drewN nq = w1 at hbq x2q H2q ⊢
      go_wp2_with fail
      go_loop [6, 59] (fun _ i => ∃ k : Nat, k ≤ m ∧ i = .int .i64 (k : Int)) (fun _ i => m - (intOf i).toNat)
      case atStart => exact ⟨0, by omega, rfl⟩
      case round =>
        obtain ⟨j, hj, rfl⟩ := hrel
        by_cases hlt2 : j < m
        · have hlt' : (j : Int) < (m : Int) := by omega
          have hjs : j < d.length := by rw [HM.out]; exact hlt2
          obtain ⟨b, o, rfl⟩ := H2q.out.addr j (by rw [ofN_len]; exact hjs)
          have c1 := H2q.out.atN j hjs
          have hx := HG.out.full _ (List.getElem_mem hjs)
          obtain ⟨x, ex⟩ : ∃ x, d[j] = x := ⟨_, rfl⟩
          rw [ex] at c1 hx
          have hx2 : (x : Int) ≤ 65535 := by omega
          clear ex hx
          go_wp2_with fail
          go_round
          case rel => exact ⟨j + 1, by omega, by go_num⟩
          case measure => simp [intOf]; omega
        · obtain rfl : j = m := by omega
          go_wp2_with fail
          go_ret
          exact ⟨rfl, hbq⟩
end Go.Proofs.Ytjinpngojdefiaa
