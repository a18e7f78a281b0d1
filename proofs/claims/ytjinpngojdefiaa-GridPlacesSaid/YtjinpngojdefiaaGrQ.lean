/- Appends onto lists of the call's own, whatever is appended; copies of grids. -/
import Derived.Test.YtjinpngojdefiaaGrP
import Derived.Maps.AppendAt
namespace Go.Proofs.Ytjinpngojdefiaa
open Go.RowKit
set_option maxRecDepth 20000
set_option maxHeartbeats 3200000

theorem ints_append (a b : List Int) : ints (a ++ b) = ints a ++ ints b := by simp [ints]
theorem run_append_ls (ty : TypeId) (base : Nat) (v : Value) (l : List Int) (A : Option Addr) (c : Nat) (l2 : List Int) (w : World) (hown : Ow w base v l) (h : Ls w .i64 A l2) (hb : l.length + l2.length ≤ 1000000) (hbase : base ≤ w.heap.size) :
    ∃ v' w', (Builtin.append_ #[22, 22] ty #[v, .slice A l2.length c]).run Try.prog w = .ok v' w' ∧ Ow w' base v' (l ++ l2) ∧ w.grownBy w' v.ownBlock ∧ (v'.ownBlock = v.ownBlock ∨ v'.ownBlock = some w.heap.size) := by
  obtain ⟨i0, hi, hz0, hz1, hz2⟩ := info_parts info_int
  rcases Nat.eq_zero_or_pos l2.length with h0 | h0
  · have e := List.length_eq_zero_iff.1 h0
    subst e
    refine ⟨v, w, ?_, by rw [List.append_nil]; exact hown, World.grownBy.refl w _, .inl rfl⟩
    rcases hown.2 with ⟨rfl, _⟩ | ⟨g, cap, cur, rfl, _, _, hn, _⟩
    · cases A <;> simp [Builtin.append_, run_underlying Try.underlying22, Go.sizeOf, typeInfo, hi, Builtin.lenOf, Builtin.firstCells, loadCells, loadCellsFrom]
    · cases A <;> simp [Builtin.append_, run_underlying Try.underlying22, Go.sizeOf, typeInfo, hi, Builtin.lenOf, Builtin.firstCells, loadCells, loadCellsFrom, storeCells, hn]
  · obtain ⟨b, o, rfl⟩ := h.addr 0 h0
    obtain ⟨v', w', h1, h2, h3, _, h4⟩ := run_append_own_at (P := Try.prog) w base 22 ty 3 i0 (.int .i64 0) 1 8 Try.underlying22 hi hz0 hz1 hz2 rfl (by decide) v l.length (ints l) hown ⟨b, o, none⟩ l2.length c (ints l2) (by simp [ints])
      (fun j u hj => by
        have hj2 : j < l2.length := by
          have := (List.getElem?_eq_some_iff.1 hj).1
          simpa [ints] using this
        have e1 : (⟨b, o, none⟩ : Addr).add j = ⟨b, o + j, none⟩ := by unfold Addr.add; split <;> simp_all
        rw [e1, h.at j hj2, ← hj]
        simp [ints, hj2])
      (fun u hu => by
        obtain ⟨x, _, rfl⟩ := List.mem_map.1 hu
        rfl)
      (by unfold maxLen; omega) (by omega) hbase
    refine ⟨v', w', h1, ?_, h3, h4⟩
    unfold Ow
    rw [List.length_append, ints_append]
    exact h2
theorem wpList_append_ls {ops : Array Oper} {rest : List Oper} {o : Oper} {a : Act} {Q : Exit → Act → World → Prop} (w : World) (hgd : o.guard = none) (s x : Operand)
    (ho : o.op = .call { callee := .builtin .append, args := #[s, x], argTypes := #[22, 22] }) (base : Nat) (v : Value) (l : List Int) (hs : a.eval s = v) (hown : Ow w base v l)
    (A : Option Addr) (c : Nat) (l2 : List Int) (hx : a.eval x = .slice A l2.length c) (h : Ls w .i64 A l2) (hb : l.length + l2.length ≤ 1000000) (hbase : base ≤ w.heap.size)
    (hK : ∀ v' w', Ow w' base v' (l ++ l2) → w.grownBy w' v.ownBlock → (v'.ownBlock = v.ownBlock ∨ v'.ownBlock = some w.heap.size) → wpList Try.prog ops Q rest (a.put o.dst v') w') : wpList Try.prog ops Q (o :: rest) a w := by
  refine wpList_plain hgd fun K hK' => ?_
  obtain ⟨v', w', h1, h2, h3, h4⟩ := run_append_ls o.type base v l A c l2 w hown h hb hbase
  unfold Oper.wp execOp
  simp only [ho, resolve, invoke, builtin, Sem.run_bind, Sem.run_pure, Result.andThen_ok, List.map_toArray, List.map_cons, List.map_nil, hs, hx, h1]
  exact hK' _ _ (hK v' w' h2 h3 h4)
/-- An empty list of the call's own that is not nil. -/
theorem Ow.empty (w : World) (base : Nat) (hb : base ≤ w.heap.size) : Ow (w.alloc (.cells #[] 3)) base (.slice (some ⟨w.heap.size, 0, none⟩) 0 0) [] := World.ownsRow_made (base := base) w #[] 0 hb (by unfold maxLen; omega) rfl
theorem Ow.weaken {w : World} {b b' : Nat} {v : Value} {l : List Int} (h : Ow w b v l) (hb : b' ≤ b) : Ow w b' v l := by
  refine ⟨h.1, ?_⟩
  rcases h.2 with h0 | ⟨g, cap, cur, h1, h2, h3⟩
  · exact .inl h0
  · exact .inr ⟨g, cap, cur, h1, by omega, h3⟩
theorem Gb.put0 {w : World} {g : Nat} {a : Value} {q : Int} {v : Value} (h : Gb w g a q v) (a' : Value) : Gb (w.setCell ⟨g, 0, none⟩ a') g a' q v := by
  refine ⟨World.cell?_setCell_same' _ _ _ (by rw [h.c0]; rfl), ?_, ?_, fun j => by rw [World.frozen?_setCell]; exact h.fz j⟩
  · rw [World.cell?_setCell_other (h := (by intro e'; simp at e' : (⟨g, 0, none⟩ : Addr) ≠ ⟨g, 1, none⟩))]; exact h.c1
  · rw [World.cell?_setCell_other (h := (by intro e'; simp at e' : (⟨g, 0, none⟩ : Addr) ≠ ⟨g, 2, none⟩))]; exact h.c2
/-- Two lists of the call's own that don't share a block. -/
def Apart (u v : Value) : Prop := ∀ r, u.ownBlock = some r → v.ownBlock = some r → False
theorem Ow.grown {w w' : World} {base : Nat} {v : Value} {l : List Int} {row : Option Nat} (h : Ow w base v l) (hg : w.grownBy w' row) (hne : ∀ r, v.ownBlock = some r → row = some r → False) : Ow w' base v l := by
  refine World.ownsRow.kept h hg ?_
  cases hv : v.ownBlock with
  | none => exact .inl rfl
  | some r => exact .inr fun e => hne r hv e.symm

theorem copied_ok (As Ad : Option Addr) (cs cd : Nat) (sl : List Int) (q : Int) (dl : List Int) (w : World) (hl1 : sl.length ≤ 9223372036854775807) (hl2 : dl.length ≤ 9223372036854775807) (hc1 : sl.length ≤ cs) (hc2 : dl.length ≤ cd) (h1 : Ls w .i64 As sl) (h2 : Ls w .i64 Ad dl) :
    Calls Try.prog 33 #[.agg #[.slice As sl.length cs, .int .i64 q, .slice Ad dl.length cd]] w fun e w' => ∃ u v, e = .returned (.agg #[u, .int .i64 q, v]) ∧ Ow w' w.heap.size u (sl.take 8) ∧ Ow w' w.heap.size v (dl.take 5000) ∧ Apart u v ∧ Bl w w' := by
  obtain ⟨n, hn⟩ : ∃ n, sl.length = n := ⟨_, rfl⟩
  obtain ⟨m, hm⟩ : ∃ m, dl.length = m := ⟨_, rfl⟩
  have n9 : (n : Int) ≤ 9223372036854775807 := by omega
  have m9 : (m : Int) ≤ 9223372036854775807 := by omega
  have hnc : (n : Int) ≤ (cs : Int) := by omega
  have hmc : (m : Int) ≤ (cd : Int) := by omega
  obtain ⟨n8, hn8⟩ : ∃ k, (if n ≤ 8 then n else 8) = k := ⟨_, rfl⟩
  obtain ⟨m5, hm5⟩ : ∃ k, (if m ≤ 5000 then m else 5000) = k := ⟨_, rfl⟩
  have e8 : min n 8 = n8 := by rw [← hn8]; exact Nat.min_def
  have e5 : min m 5000 = m5 := by rw [← hm5]; exact Nat.min_def
  have f8 : min (n : Int) 8 = (n8 : Int) := by omega
  have f5 : min (m : Int) 5000 = (m5 : Int) := by omega
  have g8 : (if (n : Int) ≤ 8 then (n : Int) else 8) = (n8 : Int) := by split <;> omega
  have g5 : (if (m : Int) ≤ 5000 then (m : Int) else 5000) = (m5 : Int) := by split <;> omega
  have g8' : (if (8 : Int) < (n : Int) then 8 else (n : Int)) = (n8 : Int) := by split <;> omega
  have g5' : (if (5000 : Int) < (m : Int) then 5000 else (m : Int)) = (m5 : Int) := by split <;> omega
  have hn8c : (n8 : Int) ≤ (cs : Int) := by omega
  have hm5c : (m5 : Int) ≤ (cd : Int) := by omega
  have k8 : (sl.take 8).length = n8 := by rw [List.length_take, hn, Nat.min_comm]; exact e8
  have k5 : (dl.take 5000).length = m5 := by rw [List.length_take, hm, Nat.min_comm]; exact e5
  have L8 : Ls w .i64 As (sl.take 8) := fun hl => by
    obtain ⟨b, o, rfl, hc⟩ := h1 (by rw [List.length_take] at hl; omega)
    exact ⟨b, o, rfl, fun j hj => by rw [List.getElem_take]; exact hc j (by rw [List.length_take] at hj; omega)⟩
  have L5 : Ls w .i64 Ad (dl.take 5000) := fun hl => by
    obtain ⟨b, o, rfl, hc⟩ := h2 (by rw [List.length_take] at hl; omega)
    exact ⟨b, o, rfl, fun j hj => by rw [List.getElem_take]; exact hc j (by rw [List.length_take] at hj; omega)⟩
  obtain ⟨s8, hs8⟩ : ∃ s, sl.take 8 = s := ⟨_, rfl⟩
  obtain ⟨d5, hd5⟩ : ∃ s, dl.take 5000 = s := ⟨_, rfl⟩
  rw [hs8] at k8 L8 ⊢
  rw [hd5] at k5 L5 ⊢
  rw [hn, hm]
  have K8 := Lib.hid k8; have K5 := Lib.hid k5; have L8 := Lib.hid L8; have L5 := Lib.hid L5
  have hb8 : n8 ≤ 8 := by omega
  have hb5 : m5 ≤ 5000 := by omega
  clear hn hm hl1 hl2 hc1 hc2 h1 h2 hs8 hd5 k8 k5 hn8 hm5 e8 e5
  have b1 := Bl.new w (.cells #[.slice As n cs, .int .i64 q, .slice Ad m cd] 24)
  have G1 := Gb.new w (.slice As n cs) (.slice Ad m cd) q 24
  have b2 := Bl.new (w.alloc (.cells #[.slice As n cs, .int .i64 q, .slice Ad m cd] 24)) (.cells #[.slice none 0 0, .int .i64 0, .slice none 0 0] 24)
  have G1 := G1.keep b2
  have G2 := Gb.new (w.alloc (.cells #[.slice As n cs, .int .i64 q, .slice Ad m cd] 24)) (.slice none 0 0) (.slice none 0 0) 0 24
  have b12 := b1.trans b2
  have hsz1 : (w.alloc (.cells #[.slice As n cs, .int .i64 q, .slice Ad m cd] 24)).heap.size = w.heap.size + 1 := by simp
  have hsz2 : ((w.alloc (.cells #[.slice As n cs, .int .i64 q, .slice Ad m cd] 24)).alloc (.cells #[.slice none 0 0, .int .i64 0, .slice none 0 0] 24)).heap.size = w.heap.size + 2 := by simp
  rw [hsz1] at G2
  clear b1 b2 hsz1
  go_enter Try.func33, Try.ntmps33
  go_upto_region 1 with (fail)
  generalize (w.alloc (.cells #[.slice As n cs, .int .i64 q, .slice Ad m cd] 24)).alloc (.cells #[.slice none 0 0, .int .i64 0, .slice none 0 0] 24) = w2 at b12 G1 G2 hsz2 ⊢
  have G1a := G1.keep (Bl.new w2 (.cells #[] 3))
  obtain ⟨x0, x1, x2, x3⟩ := G1a
  have HG1 := Lib.hid G1; have HG2 := Lib.hid G2; have HB := Lib.hid b12; have HSZ := Lib.hid hsz2
  clear G1 G2 b12 hsz2
  go_wp2_with (at_builtin; refine wpList_append_ls _ rfl _ _ rfl w2.heap.size _ [] rfl (Ow.empty w2 w2.heap.size (Nat.le_refl _)) As cs s8 ?c1 ?c2 ?c3 ?c4 ?_)
  case c1 => first | rfl | (rw [K8.out]; rfl)
  case c2 => exact L8.out.keep (HB.out.trans (Bl.new _ _))
  case c3 => have := K8.out; simp; omega
  case c4 => simp
  intro u w3 hu hg3 ha3
  obtain ⟨Au, cu, hue, -, -⟩ := hu.addr
  rw [K8.out] at hue
  subst hue
  have hr3 : ∀ k, (Value.slice (some ⟨w2.heap.size, 0, none⟩) 0 0).ownBlock = some k → k = w2.heap.size := fun k hk => by
    have : w2.heap.size = k := by simpa [Value.ownBlock] using hk
    omega
  have B3 := (HB.out.trans (Bl.new w2 (.cells #[] 3))).grown hg3 (by have := Below.size (HB.out.trans (Bl.new w2 (.cells #[] 3))); exact this) (fun k hk => by have := hr3 k hk; have := Below.size HB.out; omega)
  have G3 := (HG1.out.keep (Bl.new w2 (.cells #[] 3))).grown hg3 (fun k hk => by have := hr3 k hk; have := HSZ.out; omega)
  have G23 := (HG2.out.keep (Bl.new w2 (.cells #[] 3))).grown hg3 (fun k hk => by have := hr3 k hk; have := HSZ.out; omega)
  have hsz3 : w2.heap.size ≤ w3.heap.size := by have := hg3.size; simp at this; omega
  have G4 := G3.put0 (Value.slice Au n8 cu)
  have G24 : Gb (w3.setCell ⟨w.heap.size, 0, none⟩ (Value.slice Au n8 cu)) (w.heap.size + 1) (.slice none 0 0) 0 (.slice none 0 0) :=
    ⟨by rw [World.cell?_setCell_other (h := (by intro e'; simp at e' : (⟨w.heap.size, 0, none⟩ : Addr) ≠ ⟨w.heap.size + 1, 0, none⟩))]; exact G23.c0,
     by rw [World.cell?_setCell_other (h := (by intro e'; simp at e' : (⟨w.heap.size, 0, none⟩ : Addr) ≠ ⟨w.heap.size + 1, 1, none⟩))]; exact G23.c1,
     by rw [World.cell?_setCell_other (h := (by intro e'; simp at e' : (⟨w.heap.size, 0, none⟩ : Addr) ≠ ⟨w.heap.size + 1, 2, none⟩))]; exact G23.c2,
     fun j => by rw [World.frozen?_setCell]; exact G23.fz j⟩
  have B4 : Bl w (w3.setCell ⟨w.heap.size, 0, none⟩ (Value.slice Au n8 cu)) := Below.setCell B3 (Nat.le_refl _) _
  have O4 : Ow (w3.setCell ⟨w.heap.size, 0, none⟩ (Value.slice Au n8 cu)) w2.heap.size (Value.slice Au n8 cu) s8 := hu.put (by have := HSZ.out; omega)
  have S4 : (w3.setCell ⟨w.heap.size, 0, none⟩ (Value.slice Au n8 cu)).heap.size = w3.heap.size := by simp [World.setCell]
  obtain ⟨t0, t1, t2, t3⟩ := G3
  have f3 := t3 0
  clear x0 x1 x2 x3 hu hg3 ha3 hr3 B3 G23 t3
  have G4a := G4.keep (Bl.new (w3.setCell ⟨w.heap.size, 0, none⟩ (Value.slice Au n8 cu)) (.cells #[] 3))
  obtain ⟨x0, x1, x2, x3⟩ := G4a
  have E4 := Ow.empty (w3.setCell ⟨w.heap.size, 0, none⟩ (Value.slice Au n8 cu)) w3.heap.size (by rw [S4]; exact Nat.le_refl _)
  rw [S4] at E4
  have HB4 := Lib.hid B4; have HO4 := Lib.hid O4; have HG4 := Lib.hid G4; have HG24 := Lib.hid G24; have HS4 := Lib.hid (show w2.heap.size ≤ w3.heap.size by omega); have HSS := Lib.hid S4
  clear B4 O4 G4 G24 S4 hsz3
  go_wp2_with (at_builtin; refine wpList_append_ls _ rfl _ _ rfl w3.heap.size _ [] rfl E4 Ad cd d5 ?d1 ?d2 ?d3 ?d4 ?_)
  case d1 => first | rfl | (rw [K5.out]; rfl)
  case d2 => exact L5.out.keep (HB4.out.trans (Bl.new _ _))
  case d3 => have := K5.out; simp; omega
  case d4 => simp
  intro v w5 hv hg5 ha5
  obtain ⟨Av, cv, hve, -, -⟩ := hv.addr
  rw [K5.out] at hve
  subst hve
  have hr5 : ∀ k, (Value.slice (some ⟨w3.heap.size, 0, none⟩) 0 0).ownBlock = some k → k = w3.heap.size := fun k hk => by
    have : w3.heap.size = k := by simpa [Value.ownBlock] using hk
    omega
  have B5 := (HB4.out.trans (Bl.new (w3.setCell ⟨w.heap.size, 0, none⟩ (Value.slice Au n8 cu)) (.cells #[] 3))).grown hg5 (by have := Below.size (HB4.out.trans (Bl.new (w3.setCell ⟨w.heap.size, 0, none⟩ (Value.slice Au n8 cu)) (.cells #[] 3))); exact this) (fun k hk => by have := hr5 k hk; have := Below.size HB4.out; have := HSS.out; omega)
  have G5 := (HG4.out.keep (Bl.new (w3.setCell ⟨w.heap.size, 0, none⟩ (Value.slice Au n8 cu)) (.cells #[] 3))).grown hg5 (fun k hk => by have := hr5 k hk; have := HSZ.out; have := HS4.out; omega)
  have G25 := (HG24.out.keep (Bl.new (w3.setCell ⟨w.heap.size, 0, none⟩ (Value.slice Au n8 cu)) (.cells #[] 3))).grown hg5 (fun k hk => by have := hr5 k hk; have := HSZ.out; have := HS4.out; omega)
  have O5 := (HO4.out.keep (Bl.new (w3.setCell ⟨w.heap.size, 0, none⟩ (Value.slice Au n8 cu)) (.cells #[] 3))).grown hg5 (fun r hr hk => by have := hr5 r hk; have := (HO4.out.lt r hr).2; have := HSS.out; omega)
  have AP : Apart (Value.slice Au n8 cu) (Value.slice Av m5 cv) := fun r hr hv' => by have := (HO4.out.lt r hr).2; have := (hv.lt r hv').1; have := HSS.out; omega
  obtain ⟨t0, t1, t2, t3⟩ := G5
  have G6 := Gb.put ⟨t0, t1, t2, t3⟩ (Value.slice Av m5 cv)
  have f5 := t3 2
  have G26 : Gb (w5.setCell ⟨w.heap.size, 2, none⟩ (Value.slice Av m5 cv)) (w.heap.size + 1) (.slice none 0 0) 0 (.slice none 0 0) :=
    ⟨by rw [World.cell?_setCell_other (h := (by intro e'; simp at e' : (⟨w.heap.size, 2, none⟩ : Addr) ≠ ⟨w.heap.size + 1, 0, none⟩))]; exact G25.c0,
     by rw [World.cell?_setCell_other (h := (by intro e'; simp at e' : (⟨w.heap.size, 2, none⟩ : Addr) ≠ ⟨w.heap.size + 1, 1, none⟩))]; exact G25.c1,
     by rw [World.cell?_setCell_other (h := (by intro e'; simp at e' : (⟨w.heap.size, 2, none⟩ : Addr) ≠ ⟨w.heap.size + 1, 2, none⟩))]; exact G25.c2,
     fun j => by rw [World.frozen?_setCell]; exact G25.fz j⟩
  have B6 : Bl w (w5.setCell ⟨w.heap.size, 2, none⟩ (Value.slice Av m5 cv)) := Below.setCell B5 (Nat.le_refl _) _
  have O6 : Ow (w5.setCell ⟨w.heap.size, 2, none⟩ (Value.slice Av m5 cv)) w2.heap.size (Value.slice Au n8 cu) s8 := O5.put (by have := HSZ.out; omega)
  have P6 : Ow (w5.setCell ⟨w.heap.size, 2, none⟩ (Value.slice Av m5 cv)) w3.heap.size (Value.slice Av m5 cv) d5 := hv.put (by have := HSZ.out; have := HS4.out; omega)
  clear x0 x1 x2 x3 hv hg5 ha5 hr5 B5 G25 O5 t3
  obtain ⟨x0, x1, x2, x3⟩ := G6
  obtain ⟨y0, y1, y2, y3⟩ := G26
  have g0 := y3 0; have g1 := y3 1; have g2 := y3 2
  have HB6 := Lib.hid B6; have HO6 := Lib.hid O6; have HP6 := Lib.hid P6; have HAP := Lib.hid AP
  clear B6 O6 P6 AP x3 y3
  go_wp2_with fail
  have ST := store_three y0 y1 y2 (Value.slice Au n8 cu) (.int .i64 q) (Value.slice Av m5 cv)
  refine bodyPost_ret (v := .agg #[(Value.slice Au n8 cu), .int .i64 q, (Value.slice Av m5 cv)]) (by obtain ⟨s0, s1, s2⟩ := ST; simp [results, Try.results33, go_sem, s0, s1, s2]) rfl ⟨(Value.slice Au n8 cu), (Value.slice Av m5 cv), rfl, ?_, ?_, HAP.out, ?_⟩
  · exact (((HO6.out.put (by have := HSZ.out; omega)).put (by have := HSZ.out; omega)).put (by have := HSZ.out; omega)).weaken (by have := HSZ.out; omega)
  · exact (((HP6.out.put (by have := HSZ.out; have := HS4.out; omega)).put (by have := HSZ.out; have := HS4.out; omega)).put (by have := HSZ.out; have := HS4.out; omega)).weaken (by have := HSZ.out; have := HS4.out; omega)
  · exact Below.setCell (Below.setCell (Below.setCell HB6.out (Nat.le_succ _) _) (Nat.le_succ _) _) (Nat.le_succ _) _
end Go.Proofs.Ytjinpngojdefiaa
