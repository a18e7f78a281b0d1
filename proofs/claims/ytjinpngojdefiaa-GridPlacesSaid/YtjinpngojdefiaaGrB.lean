/- Contracts of grids: the index of a number, in the law's words and in the reference's. -/
import Derived.Test.YtjinpngojdefiaaGrA
import Derived.Deep.RegionWith
namespace Go.Proofs.Ytjinpngojdefiaa
open Go.RowKit
set_option maxRecDepth 20000
set_option maxHeartbeats 3200000

theorem drop_cons (s : List Nat) (j : Nat) (h : j < s.length) : s.drop j = s[j] :: s.drop (j + 1) := List.drop_eq_getElem_cons h
/-- What a loop that lays digits from the last one on has come to. -/
def Laid (s : List Nat) (k N m : Nat) (l : List Int) : Prop := ∃ ix : List Nat, l = List.replicate k 0 ++ ofN ix ∧ k + ix.length = s.length ∧ Gr.below ix (s.drop k) ∧ m * Gr.prod (s.drop k) + Gr.plc (s.drop k) ix 0 = N
theorem Laid.start (s : List Nat) (N : Nat) : Laid s s.length N N (List.replicate s.length 0) :=
  ⟨[], by simp [ofN], by simp, by rw [List.drop_length]; trivial, by rw [List.drop_length]; simp [Gr.prod, Gr.plc]⟩
theorem Laid.len {s : List Nat} {k N m : Nat} {l : List Int} (h : Laid s k N m l) : l.length = s.length := by
  obtain ⟨ix, rfl, h1, _⟩ := h
  simp [ofN]; omega
theorem Laid.step {s : List Nat} {j N m : Nat} {l : List Int} (h : Laid s (j + 1) N m l) (hj : j < s.length) (hs : 1 ≤ s[j]) : Laid s j N (m / s[j]) (l.set j ((m % s[j] : Nat) : Int)) := by
  obtain ⟨ix, rfl, h1, h2, h3⟩ := h
  refine ⟨m % s[j] :: ix, ?_, by simp; omega, ?_, ?_⟩
  · rw [List.replicate_succ', List.append_assoc, List.set_append_right _ _ (by simp)]
    simp [ofN]
  · rw [drop_cons s j hj]
    exact ⟨Nat.mod_lt _ (by omega), h2⟩
  · rw [drop_cons s j hj]
    exact Gr.digit_step _ _ _ _ _ (by simp; omega) h3
theorem Laid.done {s : List Nat} {N m : Nat} {l : List Int} (h : Laid s 0 N m l) (hN : N < Gr.prod s) : ∃ ix : List Nat, l = ofN ix ∧ Gr.below ix s ∧ Gr.plc s ix 0 = N := by
  obtain ⟨ix, rfl, _, h2, h3⟩ := h
  exact ⟨ix, by simp, by simpa using h2, Gr.digit_end _ _ _ _ (by simpa using h3) hN⟩

theorem index_ok (A : Option Addr) (c : Nat) (s : List Nat) (N : Nat) (w : World) (hs : Sz s) (hN : N < Gr.prod s) (h : Ls w .i64 A (ofN s)) :
    Calls Try.prog 29 #[.slice A s.length c, .int .i64 (N : Int)] w fun e w' => ∃ (g : Nat) (ix : List Nat), e = .returned (.slice (some ⟨g, 0, none⟩) s.length s.length) ∧ w.heap.size ≤ g ∧ Rw w' g (ofN ix) ∧ Gr.below ix s ∧ Gr.plc s ix 0 = N ∧ Bl w w' := by
  have HS := Lib.hid hs; have HPN := Lib.hid hN
  have hNb : (N : Int) ≤ 6561 := by have := hs.take s.length; rw [List.take_length] at this; omega
  have L0 := Lib.hid (Laid.start s N)
  have hmk := make_ints s.length (by have := hs.1; omega)
  obtain ⟨n, hn⟩ : ∃ n, s.length = n := ⟨_, rfl⟩
  have hn4 : (n : Int) ≤ 4 := by have := hs.1; omega
  have HN := Lib.hid hn
  rw [hn] at L0 hmk ⊢
  clear hn hs hN
  go_enter Try.func29, Try.ntmps29
  go_wp2_with fail
  have r0 := Rw.new w (List.replicate n 0) 3
  have b0 := Bl.new w (.cells (ints (List.replicate n 0)).toArray 3)
  obtain ⟨g, hg⟩ : ∃ g, w.heap.size = g := ⟨_, rfl⟩
  have HG := Lib.hid hg
  rw [hg] at r0 ⊢
  have H0 := Lib.hid h
  clear hg hmk h
  generalize w.alloc (.cells (ints (List.replicate n 0)).toArray 3) = w0 at r0 b0 ⊢
  go_loopw [1, 6] (fun mv iv wr => ∃ (k m : Nat) (I : Int) (l : List Int), I + 1 = (k : Int) ∧ k ≤ n ∧ m ≤ N ∧ iv = .int .i64 I ∧ mv = .int .i64 (m : Int) ∧ Laid s k N m l ∧ Rw wr g l ∧ Bl w wr) (fun _ iv _ => (intOf iv + 1).toNat)
  case atStart => exact ⟨n, N, _, List.replicate n 0, by omega, by omega, by omega, rfl, rfl, L0.out, r0, b0⟩
  case round =>
    clear r0 b0
    obtain ⟨k, m, I, l, hI, hk, hm, rfl, rfl, hl, hrow, hb⟩ := hrel
    cases k with
    | zero =>
      obtain rfl : I = -1 := by omega
      obtain ⟨ix, hx1, hx2, hx3⟩ := hl.done HPN.out
      subst hx1
      have HX := Lib.hid hx2; have HY := Lib.hid hx3
      clear hx2 hx3 hl
      go_wp2_with fail
      go_ret
      exact ⟨g, ix, rfl, by rw [HG.out]; exact Nat.le_refl _, hrow, HX.out, HY.out, hb⟩
    | succ j =>
      obtain rfl : I = (j : Int) := by omega
      have hjs : j < s.length := by rw [HN.out]; omega
      have hj' : (j : Int) < (n : Int) := by omega
      have hlen := hl.len
      obtain ⟨b, o, rfl⟩ := H0.out.addr j (by rw [ofN_len]; exact hjs)
      have c1 := (H0.out.keep hb).atN j hjs
      have hx := HS.out.at j hjs
      have hnext := hl.step hjs (by omega)
      obtain ⟨x, ex⟩ : ∃ x, s[j] = x := ⟨_, rfl⟩
      rw [ex] at c1 hx hnext
      have hc : wr.cell? ⟨g, j, none⟩ = some (.int .i64 (l[j]'(by omega))) := hrow.cell j (by omega)
      have hf := hrow.free j
      have hset := hrow.set j ((m % x : Nat) : Int) (by omega)
      have e1 : (m : Int).tmod (x : Int) = ((m % x : Nat) : Int) := by rw [Int.tmod_eq_emod_of_nonneg (by omega)]; omega
      have e2 : (m : Int) % (x : Int) = ((m % x : Nat) : Int) := by omega
      have e3 : (m : Int).tdiv (x : Int) = ((m / x : Nat) : Int) := by rw [Int.tdiv_eq_ediv_of_nonneg (by omega)]; omega
      have e4 : (m : Int) / (x : Int) = ((m / x : Nat) : Int) := by omega
      have hmx : m / x ≤ m := Nat.div_le_self _ _
      have hmr : m % x < x := Nat.mod_lt _ (by omega)
      obtain ⟨mq, eq⟩ : ∃ q, m / x = q := ⟨_, rfl⟩
      obtain ⟨mr, er⟩ : ∃ q, m % x = q := ⟨_, rfl⟩
      rw [eq] at e3 e4 hmx hnext
      rw [er] at e1 e2 hmr hset hnext
      have HSET := Lib.hid (hset.drew); have HNEXT := Lib.hid hnext
      have HB := Lib.hid hb; have HG2 := Lib.hid (show w.heap.size ≤ g by rw [HG.out]; exact Nat.le_refl _)
      have hx1 : (2 : Int) ≤ (x : Int) := by omega
      have hx2 : (x : Int) ≤ 9 := by omega
      have hm1 : (m : Int) ≤ 6561 := by omega
      have hc' : ∃ v, wr.cell? ⟨g, j, none⟩ = some v := ⟨_, hc⟩
      clear ex eq er hset hnext hb hrow hl hc
      obtain ⟨v0, hc⟩ := hc'
      clear hlen
      go_wp2_with fail
      go_region
      go_wp2_with fail
      go_roundw
      case rel => exact ⟨j, mq, (j : Int) - 1, _, by omega, by omega, by omega, rfl, rfl, HNEXT.out, HSET.out, Bl.drew (Below.setCell HB.out HG2.out _)⟩
      case measure => simp [intOf]
theorem refindex_ok (A : Option Addr) (c : Nat) (s : List Nat) (N : Nat) (w : World) (hs : Sz s) (hN : N < Gr.prod s) (h : Ls w .i64 A (ofN s)) :
    Calls Try.prog 50 #[.slice A s.length c, .int .i64 (N : Int)] w fun e w' => ∃ (g : Nat) (ix : List Nat), e = .returned (.slice (some ⟨g, 0, none⟩) s.length s.length) ∧ w.heap.size ≤ g ∧ Rw w' g (ofN ix) ∧ Gr.below ix s ∧ Gr.plc s ix 0 = N ∧ Bl w w' := by
  have HS := Lib.hid hs; have HPN := Lib.hid hN
  have hNb : (N : Int) ≤ 6561 := by have := hs.take s.length; rw [List.take_length] at this; omega
  have L0 := Lib.hid (Laid.start s N)
  have hmk := make_ints s.length (by have := hs.1; omega)
  obtain ⟨n, hn⟩ : ∃ n, s.length = n := ⟨_, rfl⟩
  have hn4 : (n : Int) ≤ 4 := by have := hs.1; omega
  have HN := Lib.hid hn
  rw [hn] at L0 hmk ⊢
  clear hn hs hN
  go_enter Try.func50, Try.ntmps50
  go_wp2_with fail
  have r0 := Rw.new w (List.replicate n 0) 3
  have b0 := Bl.new w (.cells (ints (List.replicate n 0)).toArray 3)
  obtain ⟨g, hg⟩ : ∃ g, w.heap.size = g := ⟨_, rfl⟩
  have HG := Lib.hid hg
  rw [hg] at r0 ⊢
  have H0 := Lib.hid h
  clear hg hmk h
  generalize w.alloc (.cells (ints (List.replicate n 0)).toArray 3) = w0 at r0 b0 ⊢
  go_loopw [1, 6] (fun mv iv wr => ∃ (k m : Nat) (I : Int) (l : List Int), I + 1 = (k : Int) ∧ k ≤ n ∧ m ≤ N ∧ iv = .int .i64 I ∧ mv = .int .i64 (m : Int) ∧ Laid s k N m l ∧ Rw wr g l ∧ Bl w wr) (fun _ iv _ => (intOf iv + 1).toNat)
  case atStart => exact ⟨n, N, _, List.replicate n 0, by omega, by omega, by omega, rfl, rfl, L0.out, r0, b0⟩
  case round =>
    clear r0 b0
    obtain ⟨k, m, I, l, hI, hk, hm, rfl, rfl, hl, hrow, hb⟩ := hrel
    cases k with
    | zero =>
      obtain rfl : I = -1 := by omega
      obtain ⟨ix, hx1, hx2, hx3⟩ := hl.done HPN.out
      subst hx1
      have HX := Lib.hid hx2; have HY := Lib.hid hx3
      clear hx2 hx3 hl
      go_wp2_with fail
      go_ret
      exact ⟨g, ix, rfl, by rw [HG.out]; exact Nat.le_refl _, hrow, HX.out, HY.out, hb⟩
    | succ j =>
      obtain rfl : I = (j : Int) := by omega
      have hjs : j < s.length := by rw [HN.out]; omega
      have hj' : (j : Int) < (n : Int) := by omega
      have hlen := hl.len
      obtain ⟨b, o, rfl⟩ := H0.out.addr j (by rw [ofN_len]; exact hjs)
      have c1 := (H0.out.keep hb).atN j hjs
      have hx := HS.out.at j hjs
      have hnext := hl.step hjs (by omega)
      obtain ⟨x, ex⟩ : ∃ x, s[j] = x := ⟨_, rfl⟩
      rw [ex] at c1 hx hnext
      have hc : wr.cell? ⟨g, j, none⟩ = some (.int .i64 (l[j]'(by omega))) := hrow.cell j (by omega)
      have hf := hrow.free j
      have hset := hrow.set j ((m % x : Nat) : Int) (by omega)
      have e1 : (m : Int).tmod (x : Int) = ((m % x : Nat) : Int) := by rw [Int.tmod_eq_emod_of_nonneg (by omega)]; omega
      have e2 : (m : Int) % (x : Int) = ((m % x : Nat) : Int) := by omega
      have e3 : (m : Int).tdiv (x : Int) = ((m / x : Nat) : Int) := by rw [Int.tdiv_eq_ediv_of_nonneg (by omega)]; omega
      have e4 : (m : Int) / (x : Int) = ((m / x : Nat) : Int) := by omega
      have hmx : m / x ≤ m := Nat.div_le_self _ _
      have hmr : m % x < x := Nat.mod_lt _ (by omega)
      obtain ⟨mq, eq⟩ : ∃ q, m / x = q := ⟨_, rfl⟩
      obtain ⟨mr, er⟩ : ∃ q, m % x = q := ⟨_, rfl⟩
      rw [eq] at e3 e4 hmx hnext
      rw [er] at e1 e2 hmr hset hnext
      have HSET := Lib.hid hset; have HNEXT := Lib.hid hnext
      have HB := Lib.hid hb; have HG2 := Lib.hid (show w.heap.size ≤ g by rw [HG.out]; exact Nat.le_refl _)
      have hx1 : (2 : Int) ≤ (x : Int) := by omega
      have hx2 : (x : Int) ≤ 9 := by omega
      have hm1 : (m : Int) ≤ 6561 := by omega
      have hbg : b ≠ g := by
        have q1 := World.block_lt_of_cell? w _ (H0.out.atN j hjs)
        have q2 : b < w.heap.size := q1
        have q3 := HG2.out
        omega
      have c1' : (wr.setCell ⟨g, j, none⟩ (.int .i64 (mr : Int))).cell? ⟨b, o + j, none⟩ = some (.int .i64 (x : Int)) := by
        rw [World.cell?_setCell_other (h := (fun e' => hbg (congrArg Addr.block e').symm : (⟨g, j, none⟩ : Addr) ≠ ⟨b, o + j, none⟩))]
        exact c1
      have hc' : ∃ v, wr.cell? ⟨g, j, none⟩ = some v := ⟨_, hc⟩
      clear ex eq er hset hnext hb hrow hl hc
      obtain ⟨v0, hc⟩ := hc'
      clear hlen
      go_wp2_with fail
      go_roundw
      case rel => exact ⟨j, mq, (j : Int) - 1, _, by omega, by omega, by omega, rfl, rfl, HNEXT.out, HSET.out, Below.setCell HB.out HG2.out _⟩
      case measure => simp [intOf]
end Go.Proofs.Ytjinpngojdefiaa
