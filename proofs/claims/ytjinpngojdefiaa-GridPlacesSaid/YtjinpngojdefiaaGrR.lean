/- Contracts of grids: changed grids. -/
import Derived.Test.YtjinpngojdefiaaGrQ
namespace Go.Proofs.Ytjinpngojdefiaa
open Go.RowKit
set_option maxRecDepth 20000
set_option maxHeartbeats 3200000

theorem Ow.far {w : World} {base g i : Nat} {v u : Value} {l : List Int} (h : Ow w base v l) (hg : ∀ r, v.ownBlock = some r → r ≠ g) : Ow (w.setCell ⟨g, i, none⟩ u) base v l := by
  refine ⟨h.1, ?_⟩
  rcases h.2 with h0 | ⟨g', cap, cur, h1, h2, h3, h4⟩
  · exact .inl h0
  · exact .inr ⟨g', cap, cur, h1, h2, (Below.heap_setCell w ⟨g, i, none⟩ u g' (by have := hg g' (by rw [h1]; rfl); exact this)).trans h3, h4⟩
theorem Ow.set {w : World} {base g n cap : Nat} {l : List Int} (h : Ow w base (.slice (some ⟨g, 0, none⟩) n cap) l) (j : Nat) (x : Int) : Ow (w.setCell ⟨g, j, none⟩ (.int .i64 x)) base (.slice (some ⟨g, 0, none⟩) n cap) (l.set j x) := by
  refine ⟨by simp [ints], ?_⟩
  rcases h.2 with ⟨h1, _⟩ | ⟨g', cap', cur, h1, h2, h3, h4, h5, h6, h7⟩
  · cases h1
  · obtain ⟨e1, e2, e3⟩ := Value.slice.inj h1
    have e1 : g = g' := by simpa using e1
    subst e1
    refine .inr ⟨g, cap', cur.setIfInBounds j (.int .i64 x), by rw [List.length_set]; exact h1, h2, ?_, by rw [List.length_set]; exact h4, h5, by simpa using h6, ?_⟩
    · simp [World.setCell, Array.getElem?_modify, h3]
    · rw [List.length_set, Array.toList_setIfInBounds, List.take_set, h7]
      simp [ints, List.map_set]
/-- The state in which a change begins. -/
structure Bs (w : World) (W : World) (u : Value) (l1 : List Int) (q : Int) (v : Value) (l2 : List Int) (a b : Int) (N : Int) : Prop where
  grid : Gb w (W.heap.size + 1) u q v
  out : Gb w (W.heap.size + 1 + 1) (.slice none 0 0) 0 (.slice none 0 0)
  bend : w.cell? ⟨W.heap.size, 0, none⟩ = some (.int .u8 a) ∧ w.cell? ⟨W.heap.size, 1, none⟩ = some (.int .u8 b) ∧ w.cell? ⟨W.heap.size, 2, none⟩ = some (.int .i64 N)
  o1 : Ow w (W.heap.size + 3) u l1
  o2 : Ow w (W.heap.size + 3) v l2
  apart : Apart u v
  bl : Bl W w
def BendRes (w : World) (e : Ending) (w' : World) : Prop := ∃ A1 c1 l1 q A2 c2 l2, e = .returned (.agg #[.slice A1 (List.length l1) c1, .int .i64 q, .slice A2 (List.length l2) c2]) ∧ l1.length ≤ 100 ∧ l2.length ≤ 30000 ∧ l1.length ≤ c1 ∧ l2.length ≤ c2 ∧ (-9223372036854775808 ≤ q ∧ q ≤ 9223372036854775807) ∧ Ls w' .i64 A1 l1 ∧ Ls w' .i64 A2 l2 ∧ Bl w w' ∧ (∀ b o, A1 = some ⟨b, o, none⟩ → w.heap.size ≤ b) ∧ (∀ b o, A2 = some ⟨b, o, none⟩ → w.heap.size ≤ b)
theorem Ls.put' {w : World} {A : Option Addr} {l : List Int} (h : Ls w .i64 A l) (g i : Nat) (v : Value) (hg : ∀ b o, A = some ⟨b, o, none⟩ → g ≠ b) : Ls (w.setCell ⟨g, i, none⟩ v) .i64 A l := fun hl => by
  obtain ⟨b, o, rfl, _⟩ := h hl
  exact Ls.put h g i v (hg b o rfl) hl
theorem Ls.put3' {w : World} {A : Option Addr} {l : List Int} (h : Ls w .i64 A l) (g : Nat) (hg : ∀ b o, A = some ⟨b, o, none⟩ → g ≠ b) (u v x : Value) : Ls (((w.setCell ⟨g, 0, none⟩ u).setCell ⟨g, 1, none⟩ v).setCell ⟨g, 2, none⟩ x) .i64 A l :=
  ((h.put' g 0 u hg).put' g 1 v hg).put' g 2 x hg
theorem Ow.ls {w : World} {base n c : Nat} {A : Option Addr} {l : List Int} (h : Ow w base (.slice A n c) l) : Ls w .i64 A l ∧ n = l.length ∧ n ≤ c ∧ ∀ b o, A = some ⟨b, o, none⟩ → base ≤ b := by
  obtain ⟨A', c', e, h1, h2⟩ := h.addr
  obtain ⟨rfl, rfl, rfl⟩ := Value.slice.inj e
  refine ⟨h1, rfl, h2, fun b o e => ?_⟩
  subst e
  exact (h.lt b rfl).1

theorem Gb.put1 {w : World} {g : Nat} {a : Value} {q : Int} {v : Value} (h : Gb w g a q v) (q' : Int) : Gb (w.setCell ⟨g, 1, none⟩ (.int .i64 q')) g a q' v := by
  refine ⟨?_, World.cell?_setCell_same' _ _ _ (by rw [h.c1]; rfl), ?_, fun j => by rw [World.frozen?_setCell]; exact h.fz j⟩
  · rw [World.cell?_setCell_other (h := (by intro e'; simp at e' : (⟨g, 1, none⟩ : Addr) ≠ ⟨g, 0, none⟩))]; exact h.c0
  · rw [World.cell?_setCell_other (h := (by intro e'; simp at e' : (⟨g, 1, none⟩ : Addr) ≠ ⟨g, 2, none⟩))]; exact h.c2
theorem Gb.far {w : World} {g : Nat} {a : Value} {q : Int} {v : Value} (h : Gb w g a q v) (p i : Nat) (u : Value) (hp : p ≠ g) : Gb (w.setCell ⟨p, i, none⟩ u) g a q v := by
  have e : ∀ j, (w.setCell ⟨p, i, none⟩ u).cell? ⟨g, j, none⟩ = w.cell? ⟨g, j, none⟩ := fun j => by rw [World.cell?_setCell_other (h := (fun e' => hp (congrArg Addr.block e') : (⟨p, i, none⟩ : Addr) ≠ ⟨g, j, none⟩))]
  exact ⟨(e 0).trans h.c0, (e 1).trans h.c1, (e 2).trans h.c2, fun j => by rw [World.frozen?_setCell]; exact h.fz j⟩
/-- The state in which a change ends. -/
structure En (w W : World) (A1 : Option Addr) (c1 : Nat) (l1 : List Int) (q : Int) (A2 : Option Addr) (c2 : Nat) (l2 : List Int) : Prop where
  grid : Gb w (W.heap.size + 1) (.slice A1 l1.length c1) q (.slice A2 l2.length c2)
  out : Gb w (W.heap.size + 1 + 1) (.slice none 0 0) 0 (.slice none 0 0)
  ls1 : Ls w .i64 A1 l1
  ls2 : Ls w .i64 A2 l2
  n1 : ∀ b o, A1 = some ⟨b, o, none⟩ → W.heap.size + 3 ≤ b
  n2 : ∀ b o, A2 = some ⟨b, o, none⟩ → W.heap.size + 3 ≤ b
  len : l1.length ≤ 100 ∧ l2.length ≤ 30000 ∧ l1.length ≤ c1 ∧ l2.length ≤ c2
  num : -9223372036854775808 ≤ q ∧ q ≤ 9223372036854775807
  bl : Bl W w
theorem En.post {w W : World} {A1 : Option Addr} {c1 : Nat} {l1 : List Int} {q : Int} {A2 : Option Addr} {c2 : Nat} {l2 : List Int} (h : En w W A1 c1 l1 q A2 c2 l2) (u v x : Value) :
    BendRes W (.returned (.agg #[.slice A1 l1.length c1, .int .i64 q, .slice A2 l2.length c2])) (((w.setCell ⟨W.heap.size + 1 + 1, 0, none⟩ u).setCell ⟨W.heap.size + 1 + 1, 1, none⟩ v).setCell ⟨W.heap.size + 1 + 1, 2, none⟩ x) := by
  have hle : W.heap.size ≤ W.heap.size + 1 + 1 := Nat.le_add_right _ 2
  exact ⟨A1, c1, l1, q, A2, c2, l2, rfl, h.len.1, h.len.2.1, h.len.2.2.1, h.len.2.2.2, h.num, h.ls1.put3' _ (fun b o e => by have := h.n1 b o e; omega) _ _ _, h.ls2.put3' _ (fun b o e => by have := h.n2 b o e; omega) _ _ _,
    Below.setCell (Below.setCell (Below.setCell h.bl hle _) hle _) hle _, fun b o e => by have := h.n1 b o e; omega, fun b o e => by have := h.n2 b o e; omega⟩
theorem Bs.en {w W : World} {A1 : Option Addr} {n1 c1 : Nat} {l1 : List Int} {q : Int} {A2 : Option Addr} {n2 c2 : Nat} {l2 : List Int} {a b N : Int} (h : Bs w W (.slice A1 n1 c1) l1 q (.slice A2 n2 c2) l2 a b N) (hl1 : l1.length ≤ 100) (hl2 : l2.length ≤ 30000) (hq : -9223372036854775808 ≤ q ∧ q ≤ 9223372036854775807) : En w W A1 c1 l1 q A2 c2 l2 := by
  obtain ⟨a1, a2, a3, a4⟩ := h.o1.ls
  obtain ⟨b1, b2, b3, b4⟩ := h.o2.ls
  subst a2 b2
  exact ⟨h.grid, h.out, a1, b1, a4, b4, ⟨hl1, hl2, a3, b3⟩, hq, h.bl⟩

theorem Bs.num {w W : World} {u v : Value} {l1 l2 : List Int} {q a b N : Int} (h : Bs w W u l1 q v l2 a b N) : Bs (w.setCell ⟨W.heap.size + 1, 1, none⟩ (.int .i64 N)) W u l1 N v l2 a b N := by
  have e : ∀ j x, w.cell? ⟨W.heap.size, j, none⟩ = some x → (w.setCell ⟨W.heap.size + 1, 1, none⟩ (.int .i64 N)).cell? ⟨W.heap.size, j, none⟩ = some x := fun j x hx => by
    rw [World.cell?_setCell_other (h := (fun e' => by have := congrArg Addr.block e'; simp at this : (⟨W.heap.size + 1, 1, none⟩ : Addr) ≠ ⟨W.heap.size, j, none⟩))]; exact hx
  exact ⟨h.grid.put1 N, h.out.far _ _ _ (by omega), ⟨e 0 _ h.bend.1, e 1 _ h.bend.2.1, e 2 _ h.bend.2.2⟩, h.o1.put (by omega), h.o2.put (by omega), h.apart, Below.setCell h.bl (Nat.le_succ _) _⟩
theorem Bs.store {w W : World} {u v : Value} {l1 l2 : List Int} {q a b N : Int} (h : Bs w W u l1 q v l2 a b N) (g r : Nat) (x : Value) (hg : W.heap.size + 3 ≤ g) {l1' l2' : List Int} (h1 : Ow (w.setCell ⟨g, r, none⟩ x) (W.heap.size + 3) u l1') (h2 : Ow (w.setCell ⟨g, r, none⟩ x) (W.heap.size + 3) v l2') : Bs (w.setCell ⟨g, r, none⟩ x).drew W u l1' q v l2' a b N := by
  have e : ∀ j y, w.cell? ⟨W.heap.size, j, none⟩ = some y → (w.setCell ⟨g, r, none⟩ x).cell? ⟨W.heap.size, j, none⟩ = some y := fun j y hx => by
    rw [World.cell?_setCell_other (h := (fun e' => by have := congrArg Addr.block e'; simp at this; omega : (⟨g, r, none⟩ : Addr) ≠ ⟨W.heap.size, j, none⟩))]; exact hx
  have hb := (Bl.refl (w.setCell ⟨g, r, none⟩ x)).drew
  exact ⟨(h.grid.far g r x (by omega)).keep hb, (h.out.far g r x (by omega)).keep hb, ⟨e 0 _ h.bend.1, e 1 _ h.bend.2.1, e 2 _ h.bend.2.2⟩, h1.keep hb, h2.keep hb, h.apart, Bl.drew (Below.setCell h.bl (by show W.heap.size ≤ g; omega) _)⟩
theorem Bs.set1 {w W : World} {g n c : Nat} {v : Value} {l1 l2 : List Int} {q a b N : Int} (h : Bs w W (.slice (some ⟨g, 0, none⟩) n c) l1 q v l2 a b N) (r : Nat) : Bs (w.setCell ⟨g, r, none⟩ (.int .i64 N)).drew W (.slice (some ⟨g, 0, none⟩) n c) (l1.set r N) q v l2 a b N :=
  h.store g r _ (h.o1.lt g rfl).1 (h.o1.set r N) (h.o2.far fun k hk e => h.apart g rfl (by rw [← e]; exact hk))
theorem Bs.set2 {w W : World} {g n c : Nat} {u : Value} {l1 l2 : List Int} {q a b N : Int} (h : Bs w W u l1 q (.slice (some ⟨g, 0, none⟩) n c) l2 a b N) (r : Nat) : Bs (w.setCell ⟨g, r, none⟩ (.int .i64 N)).drew W u l1 q (.slice (some ⟨g, 0, none⟩) n c) (l2.set r N) a b N :=
  h.store g r _ (h.o2.lt g rfl).1 (h.o1.far fun k hk e => h.apart g (by rw [← e]; exact hk) rfl) (h.o2.set r N)

theorem Ow.one (w : World) (base : Nat) (x : Int) (hb : base ≤ w.heap.size) : Ow (w.alloc (.cells #[.int .i64 x] 3)) base (.slice (some ⟨w.heap.size, 0, none⟩) 1 1) [x] :=
  ⟨by simp [ints], .inr ⟨w.heap.size, 1, #[.int .i64 x], rfl, hb, heap_alloc_new w _, Nat.le_refl _, by unfold maxLen; decide, by simp, by simp [ints]⟩⟩
theorem Ls.one (w : World) (x : Int) : Ls (w.alloc (.cells #[.int .i64 x] 3)) .i64 (some ⟨w.heap.size, 0, none⟩) [x] := fun _ => ⟨w.heap.size, 0, rfl, fun j hj => by
  obtain rfl : j = 0 := by simp at hj; omega
  exact c_new w _ _ 0⟩
theorem Ls.take {w : World} {A : Option Addr} {l : List Int} (h : Ls w .i64 A l) (k : Nat) : Ls w .i64 A (l.take k) := fun hl => by
  obtain ⟨b, o, rfl, hc⟩ := h (by rw [List.length_take] at hl; omega)
  exact ⟨b, o, rfl, fun j hj => by rw [List.getElem_take]; exact hc j (by rw [List.length_take] at hj; omega)⟩
theorem Bs.cut {w W : World} {Au Av : Option Addr} {m1 cu m2 cv : Nat} {l1 l2 : List Int} {q a b N : Int} (h : Bs w W (.slice Au m1 cu) l1 q (.slice Av m2 cv) l2 a b N) (k : Nat) (hk : k ≤ l1.length) (hl1 : l1.length ≤ 100) (hl2 : l2.length ≤ 30000) (hq : -9223372036854775808 ≤ q ∧ q ≤ 9223372036854775807) :
    En (w.setCell ⟨W.heap.size + 1, 0, none⟩ (.slice Au k cu)) W Au cu (l1.take k) q Av cv l2 := by
  obtain ⟨a1, a2, a3, a4⟩ := h.o1.ls
  obtain ⟨b1, b2, b3, b4⟩ := h.o2.ls
  subst a2 b2
  have ek : (l1.take k).length = k := by rw [List.length_take]; omega
  refine ⟨by rw [ek]; exact h.grid.put0 _, h.out.far _ _ _ (by omega), (a1.take k).put' _ _ _ (fun b o e => by have := a4 b o e; omega), b1.put' _ _ _ (fun b o e => by have := b4 b o e; omega), a4, b4, ⟨by omega, hl2, by omega, b3⟩, hq, Below.setCell h.bl (Nat.le_succ _) _⟩
theorem Bs.big {w W : World} {u v : Value} {l1 l2 : List Int} {q a b N : Int} (h : Bs w W u l1 q v l2 a b N) : W.heap.size + 3 ≤ w.heap.size := by
  have := h.out.lt
  omega
theorem Bs.grow1 {w wa w' W : World} {u v v' : Value} {l1 l2 l1' : List Int} {q a b N : Int} {row : Option Nat} (h : Bs w W u l1 q v l2 a b N) (ha : Bl w wa) (hg : wa.grownBy w' row) (hr : row = u.ownBlock ∨ row = some w.heap.size) (hv : v'.ownBlock = row ∨ v'.ownBlock = some wa.heap.size) (ho : Ow w' (W.heap.size + 3) v' l1') :
    Bs (w'.setCell ⟨W.heap.size + 1, 0, none⟩ v') W v' l1' q v l2 a b N := by
  have hbig := h.big
  have hsz := Below.size ha
  have hrow : ∀ k, row = some k → W.heap.size + 3 ≤ k := fun k hk => by
    rcases hr with e | e
    · exact (h.o1.lt k (by rw [← e]; exact hk)).1
    · rw [e] at hk; cases hk; exact hbig
  have hcell : ∀ j y, w.cell? ⟨W.heap.size, j, none⟩ = some y → (w'.setCell ⟨W.heap.size + 1, 0, none⟩ v').cell? ⟨W.heap.size, j, none⟩ = some y := fun j y hy => by
    rw [World.cell?_setCell_other (h := (fun e' => by have := congrArg Addr.block e'; simp at this : (⟨W.heap.size + 1, 0, none⟩ : Addr) ≠ ⟨W.heap.size, j, none⟩))]
    exact hg.cell (ha.cell hy) (fun e => by have := hrow _ e.symm; simp at this; omega)
  have ho2 : Ow w' (W.heap.size + 3) v l2 := (h.o2.keep ha).grown hg fun r hr1 hr2 => by
    have h2 := (h.o2.lt r hr1).2
    rcases hr with e | e
    · exact h.apart r (by rw [← e]; exact hr2) hr1
    · rw [e] at hr2; cases hr2; omega
  have hap : Apart v' v := fun r h1 h2 => by
    have h3 := (h.o2.lt r h2).2
    rcases hv with e | e
    · rw [e] at h1
      rcases hr with e' | e'
      · exact h.apart r (by rw [← e']; exact h1) h2
      · rw [e'] at h1; cases h1; omega
    · rw [e] at h1; cases h1; omega
  have hbl : Bl W w' := (h.bl.trans ha).grown hg (by omega) (fun k hk => by have := hrow k hk; omega)
  exact ⟨((h.grid.keep ha).grown hg (fun k hk => by have := hrow k hk; omega)).put0 v', ((h.out.keep ha).grown hg (fun k hk => by have := hrow k hk; omega)).far _ _ _ (by omega), ⟨hcell 0 _ h.bend.1, hcell 1 _ h.bend.2.1, hcell 2 _ h.bend.2.2⟩, ho.put (by omega), ho2.put (by omega), hap, Below.setCell hbl (Nat.le_succ _) _⟩
theorem Bs.grow2 {w wa w' W : World} {u v v' : Value} {l1 l2 l2' : List Int} {q a b N : Int} {row : Option Nat} (h : Bs w W u l1 q v l2 a b N) (ha : Bl w wa) (hg : wa.grownBy w' row) (hr : row = v.ownBlock ∨ row = some w.heap.size) (hv : v'.ownBlock = row ∨ v'.ownBlock = some wa.heap.size) (ho : Ow w' (W.heap.size + 3) v' l2') :
    Bs (w'.setCell ⟨W.heap.size + 1, 2, none⟩ v') W u l1 q v' l2' a b N := by
  have hbig := h.big
  have hsz := Below.size ha
  have hrow : ∀ k, row = some k → W.heap.size + 3 ≤ k := fun k hk => by
    rcases hr with e | e
    · exact (h.o2.lt k (by rw [← e]; exact hk)).1
    · rw [e] at hk; cases hk; exact hbig
  have hcell : ∀ j y, w.cell? ⟨W.heap.size, j, none⟩ = some y → (w'.setCell ⟨W.heap.size + 1, 2, none⟩ v').cell? ⟨W.heap.size, j, none⟩ = some y := fun j y hy => by
    rw [World.cell?_setCell_other (h := (fun e' => by have := congrArg Addr.block e'; simp at this : (⟨W.heap.size + 1, 2, none⟩ : Addr) ≠ ⟨W.heap.size, j, none⟩))]
    exact hg.cell (ha.cell hy) (fun e => by have := hrow _ e.symm; simp at this; omega)
  have ho1 : Ow w' (W.heap.size + 3) u l1 := (h.o1.keep ha).grown hg fun r hr1 hr2 => by
    have h2 := (h.o1.lt r hr1).2
    rcases hr with e | e
    · exact h.apart r hr1 (by rw [← e]; exact hr2)
    · rw [e] at hr2; cases hr2; omega
  have hap : Apart u v' := fun r h1 h2 => by
    have h3 := (h.o1.lt r h1).2
    rcases hv with e | e
    · rw [e] at h2
      rcases hr with e' | e'
      · exact h.apart r h1 (by rw [← e']; exact h2)
      · rw [e'] at h2; cases h2; omega
    · rw [e] at h2; cases h2; omega
  have hbl : Bl W w' := (h.bl.trans ha).grown hg (by omega) (fun k hk => by have := hrow k hk; omega)
  exact ⟨((h.grid.keep ha).grown hg (fun k hk => by have := hrow k hk; omega)).put v', ((h.out.keep ha).grown hg (fun k hk => by have := hrow k hk; omega)).far _ _ _ (by omega), ⟨hcell 0 _ h.bend.1, hcell 1 _ h.bend.2.1, hcell 2 _ h.bend.2.2⟩, ho1.put (by omega), ho.put (by omega), hap, Below.setCell hbl (Nat.le_succ _) _⟩
/-- An append at a step of a region that draws its order. -/
theorem step_append_ls {ops : Array Oper} {o : Oper} {a : Act} {w : World} {K : Act → World → Prop} {Q : Exit → Act → World → Prop} {E : Prop} (hgd : o.guard = none) (s x : Operand)
    (ho : o.op = .call { callee := .builtin .append, args := #[s, x], argTypes := #[22, 22] }) (base : Nat) (v : Value) (l : List Int) (hs : a.eval s = v) (hown : Ow w base v l)
    (A : Option Addr) (c : Nat) (l2 : List Int) (m : Nat) (hm : l2.length = m) (hx : a.eval x = .slice A m c) (h : Ls w .i64 A l2) (L : List Int) (hL : l ++ l2 = L) (hb : l.length + l2.length ≤ 1000000) (hbase : base ≤ w.heap.size)
    (hK : ∀ A' c' w', Ow w' base (.slice A' L.length c') L → w.grownBy w' v.ownBlock → ((Value.slice A' L.length c').ownBlock = v.ownBlock ∨ (Value.slice A' L.length c').ownBlock = some w.heap.size) → K (a.put o.dst (.slice A' L.length c')) w') :
    if Region.wanted o (yielded ops a.tmps) = true then Oper.wp Try.prog o a w K Q else E := by
  have hw : Region.wanted o (yielded ops a.tmps) = true := by simp [Region.wanted, hgd]
  rw [if_pos hw]
  subst hm hL
  obtain ⟨v', w', h1, h2, h3, h4⟩ := run_append_ls o.type base v l A c l2 w hown h hb hbase
  obtain ⟨A', c', rfl, -, -⟩ := h2.addr
  unfold Oper.wp execOp
  simp only [ho, resolve, invoke, builtin, Sem.run_bind, Sem.run_pure, Result.andThen_ok, List.map_toArray, List.map_cons, List.map_nil, hs, hx, h1]
  exact hK A' c' w' h2 h3 h4

/-- How long the list of a cell is. -/
def lenOf : Option Value → Nat
  | some (.slice _ n _) => n
  | _ => 0

theorem bend_ok (a b N : Int) (As Ad : Option Addr) (cs cd : Nat) (sl : List Int) (q : Int) (dl : List Int) (w : World) (ha : 0 ≤ a ∧ a ≤ 255) (hb : 0 ≤ b ∧ b ≤ 255) (hN : -9223372036854775808 ≤ N ∧ N ≤ 9223372036854775807) (hq : -9223372036854775808 ≤ q ∧ q ≤ 9223372036854775807)
    (hl1 : sl.length ≤ 9223372036854775807) (hl2 : dl.length ≤ 9223372036854775807) (hc1 : sl.length ≤ cs) (hc2 : dl.length ≤ cd) (h1 : Ls w .i64 As sl) (h2 : Ls w .i64 Ad dl) :
    Calls Try.prog 32 #[.agg #[.int .u8 a, .int .u8 b, .int .i64 N], .agg #[.slice As sl.length cs, .int .i64 q, .slice Ad dl.length cd]] w (BendRes w) := by
  have CP := fun w h1 h2 => copied_ok As Ad cs cd sl q dl w hl1 hl2 hc1 hc2 h1 h2
  obtain ⟨n, hn⟩ : ∃ n, sl.length = n := ⟨_, rfl⟩
  obtain ⟨m, hm⟩ : ∃ m, dl.length = m := ⟨_, rfl⟩
  rw [hn, hm] at CP
  rw [hn, hm]
  have k1 : (sl.take 8).length ≤ 8 := by simp; omega
  have k2 : (dl.take 5000).length ≤ 5000 := by simp; omega
  obtain ⟨l1, e1⟩ : ∃ l, sl.take 8 = l := ⟨_, rfl⟩
  obtain ⟨l2, e2⟩ : ∃ l, dl.take 5000 = l := ⟨_, rfl⟩
  rw [e1] at CP k1
  rw [e2] at CP k2
  have HK1 := Lib.hid k1; have HK2 := Lib.hid k2; have HQ := Lib.hid hq; have HN := Lib.hid hN; have CP := Lib.hid CP
  clear hl1 hl2 hc1 hc2 hn hm e1 e2 k1 k2
  have b1 := Bl.new w (.cells #[.int .u8 a, .int .u8 b, .int .i64 N] 30)
  have b2 := Bl.new (w.alloc (.cells #[.int .u8 a, .int .u8 b, .int .i64 N] 30)) (.cells #[.slice As n cs, .int .i64 q, .slice Ad m cd] 24)
  have b3 := Bl.new ((w.alloc (.cells #[.int .u8 a, .int .u8 b, .int .i64 N] 30)).alloc (.cells #[.slice As n cs, .int .i64 q, .slice Ad m cd] 24)) (.cells #[.slice none 0 0, .int .i64 0, .slice none 0 0] 24)
  have x0 := (b2.trans b3).cell (c_new w #[.int .u8 a, .int .u8 b, .int .i64 N] 30 0)
  have x1 := (b2.trans b3).cell (c_new w #[.int .u8 a, .int .u8 b, .int .i64 N] 30 1)
  have x2 := (b2.trans b3).cell (c_new w #[.int .u8 a, .int .u8 b, .int .i64 N] 30 2)
  have G1 := (Gb.new (w.alloc (.cells #[.int .u8 a, .int .u8 b, .int .i64 N] 30)) (.slice As n cs) (.slice Ad m cd) q 24).keep b3
  have G2 := Gb.new ((w.alloc (.cells #[.int .u8 a, .int .u8 b, .int .i64 N] 30)).alloc (.cells #[.slice As n cs, .int .i64 q, .slice Ad m cd] 24)) (.slice none 0 0) (.slice none 0 0) 0 24
  have hz1 : (w.alloc (.cells #[.int .u8 a, .int .u8 b, .int .i64 N] 30)).heap.size = w.heap.size + 1 := by simp
  have hz2 : ((w.alloc (.cells #[.int .u8 a, .int .u8 b, .int .i64 N] 30)).alloc (.cells #[.slice As n cs, .int .i64 q, .slice Ad m cd] 24)).heap.size = w.heap.size + 1 + 1 := by simp
  have hz3 : (((w.alloc (.cells #[.int .u8 a, .int .u8 b, .int .i64 N] 30)).alloc (.cells #[.slice As n cs, .int .i64 q, .slice Ad m cd] 24)).alloc (.cells #[.slice none 0 0, .int .i64 0, .slice none 0 0] 24)).heap.size = w.heap.size + 3 := by simp
  rw [hz1] at G1
  rw [hz2] at G2
  have B := (b1.trans b2).trans b3
  have H1 := Lib.hid (h1.keep B); have H2 := Lib.hid (h2.keep B)
  clear b1 b2 b3 hz1 hz2 h1 h2
  go_enter Try.func32, Try.ntmps32
  obtain ⟨t0, t1, t2, t3⟩ := G1
  go_wp2_with fail
  generalize ((w.alloc (.cells #[.int .u8 a, .int .u8 b, .int .i64 N] 30)).alloc (.cells #[.slice As n cs, .int .i64 q, .slice Ad m cd] 24)).alloc (.cells #[.slice none 0 0, .int .i64 0, .slice none 0 0] 24) = w3 at x0 x1 x2 t0 t1 t2 t3 G2 hz3 B H1 H2 ⊢
  refine (CP.out _ H1.out H2.out).mono ?_
  rintro e w4 ⟨u, v, rfl, hu, hv, hap, hb4⟩
  obtain ⟨Au, cu, rfl, -, -⟩ := hu.addr
  obtain ⟨Av, cv, rfl, -, -⟩ := hv.addr
  rw [hz3] at hu hv
  have G4 : Gb w4 (w.heap.size + 1) (.slice As n cs) q (.slice Ad m cd) := Gb.keep ⟨t0, t1, t2, t3⟩ hb4
  have B4 := B.trans hb4
  obtain ⟨s0, s1, s2, s3⟩ := G4
  have f0 := s3 0; have f1 := s3 1; have f2 := s3 2
  have GFZ := Lib.hid s3
  have HHU := Lib.hid hu; have HHV := Lib.hid hv; have HAP := Lib.hid hap; have G24 := Lib.hid (G2.keep hb4); have X0 := Lib.hid (hb4.cell x0); have X1 := Lib.hid (hb4.cell x1); have X2 := Lib.hid (hb4.cell x2); have HB4 := Lib.hid B4
  clear t0 t1 t2 t3 x0 x1 x2 G2 hz3 B H1 H2 hu hv hap hb4 B4 s3
  have hW : Bs (((w4.setCell ⟨w.heap.size + 1, 0, none⟩ (.slice Au l1.length cu)).setCell ⟨w.heap.size + 1, 1, none⟩ (.int .i64 q)).setCell ⟨w.heap.size + 1, 2, none⟩ (.slice Av l2.length cv)) w (.slice Au l1.length cu) l1 q (.slice Av l2.length cv) l2 a b N := by
    have hg : Gb w4 (w.heap.size + 1) (.slice As n cs) q (.slice Ad m cd) := ⟨s0, s1, s2, fun j => GFZ.out j⟩
    have n0 : w.heap.size + 1 ≠ w.heap.size := by omega
    have n2 : w.heap.size + 1 ≠ w.heap.size + 1 + 1 := by omega
    have n3 : w.heap.size + 1 < w.heap.size + 3 := by omega
    have e : ∀ (w : World) (g p i j : Nat) (u v : Value), p ≠ g → w.cell? ⟨g, j, none⟩ = some v → (w.setCell ⟨p, i, none⟩ u).cell? ⟨g, j, none⟩ = some v := fun w g p i j u v hp h => by
      rw [World.cell?_setCell_other (h := (fun e' => hp (congrArg Addr.block e') : (⟨p, i, none⟩ : Addr) ≠ ⟨g, j, none⟩))]; exact h
    exact ⟨((hg.put0 _).put1 _).put _, ((G24.out.far _ _ _ n2).far _ _ _ n2).far _ _ _ n2, ⟨e _ _ _ _ _ _ _ n0 (e _ _ _ _ _ _ _ n0 (e _ _ _ _ _ _ _ n0 X0.out)), e _ _ _ _ _ _ _ n0 (e _ _ _ _ _ _ _ n0 (e _ _ _ _ _ _ _ n0 X1.out)), e _ _ _ _ _ _ _ n0 (e _ _ _ _ _ _ _ n0 (e _ _ _ _ _ _ _ n0 X2.out))⟩,
      ((HHU.out.put n3).put n3).put n3, ((HHV.out.put n3).put n3).put n3, HAP.out, Below.setCell (Below.setCell (Below.setCell HB4.out (Nat.le_succ _) _) (Nat.le_succ _) _) (Nat.le_succ _) _⟩
  go_upto_region 2 with (fail)
  generalize ((w4.setCell ⟨w.heap.size + 1, 0, none⟩ (.slice Au l1.length cu)).setCell ⟨w.heap.size + 1, 1, none⟩ (.int .i64 q)).setCell ⟨w.heap.size + 1, 2, none⟩ (.slice Av l2.length cv) = w5 at hW ⊢
  have HW := Lib.hid hW
  obtain ⟨c0, c1, c2, c3⟩ := hW.grid
  obtain ⟨d0, d1, d2⟩ := hW.bend
  have f0 := c3 0; have f1 := c3 1; have f2 := c3 2
  obtain ⟨n1, hn1⟩ : ∃ n, l1.length = n := ⟨_, rfl⟩
  obtain ⟨n2, hn2⟩ : ∃ n, l2.length = n := ⟨_, rfl⟩
  rw [hn1] at c0
  rw [hn2] at c2
  have HN1 := Lib.hid hn1; have HN2 := Lib.hid hn2
  have n8 : (n1 : Int) ≤ 8 := by have := HK1.out; omega
  have m5 : (n2 : Int) ≤ 5000 := by have := HK2.out; omega
  clear hW c3 s0 s1 s2 HHU HHV HAP G24 X0 X1 X2 HB4 hn1 hn2 CP GFZ
  obtain ⟨c, hc⟩ : ∃ c : Int, a % 8 = c := ⟨_, rfl⟩
  have hcr : 0 ≤ c ∧ c < 8 := by omega
  obtain ⟨a0, a1⟩ := ha
  obtain ⟨b0, b1⟩ := hb
  have HCC := Lib.hid hc
  clear hc
  obtain ⟨hN0, hN1⟩ := hN
  clear hq
  obtain rfl | rfl | rfl | rfl | rfl | rfl | rfl | rfl : c = 0 ∨ c = 1 ∨ c = 2 ∨ c = 3 ∨ c = 4 ∨ c = 5 ∨ c = 6 ∨ c = 7 := by omega
  · -- 0
    have hk : a % 8 = 0 := HCC.out
    clear HCC
    have HE := Lib.hid ((show Bs (w5.setCell ⟨w.heap.size + 1, 1, none⟩ (.int .i64 N)) w (.slice Au l1.length cu) l1 N (.slice Av l2.length cv) l2 a b N from HW.out.num).en (by have := HK1.out; omega) (by have := HK2.out; omega) HN.out)
    have hz := HE.out.grid
    rw [HN1.out, HN2.out] at hz
    obtain ⟨z0, z1, z2, -⟩ := hz
    obtain ⟨y0, y1, y2, y3⟩ := HE.out.out
    have g0 := y3 0; have g1 := y3 1; have g2 := y3 2
    have ST := Lib.hid (store_three y0 y1 y2 (.slice Au n1 cu) (.int .i64 N) (.slice Av n2 cv))
    clear y3
    go_wp2_with fail
    refine bodyPost_ret (v := .agg #[(.slice Au n1 cu), (.int .i64 N), (.slice Av n2 cv)]) (by obtain ⟨s0, s1, s2⟩ := ST.out; simp [results, Try.results32, go_sem, s0, s1, s2]) rfl ?_
    have HP := HE.out.post (.slice Au n1 cu) (.int .i64 N) (.slice Av n2 cv)
    rw [HN1.out, HN2.out] at HP
    exact HP
  · -- 1
    have hk : a % 8 = 1 := HCC.out
    clear HCC
    by_cases hpos : 0 < n1
    case neg =>
      obtain rfl : n1 = 0 := by omega
      have HE := Lib.hid (HW.out.en (by have := HK1.out; omega) (by have := HK2.out; omega) HQ.out)
      have hz := HE.out.grid
      rw [HN1.out, HN2.out] at hz
      obtain ⟨z0, z1, z2, -⟩ := hz
      obtain ⟨y0, y1, y2, y3⟩ := HE.out.out
      have g0 := y3 0; have g1 := y3 1; have g2 := y3 2
      have ST := Lib.hid (store_three y0 y1 y2 (.slice Au 0 cu) (.int .i64 q) (.slice Av n2 cv))
      clear y3
      go_wp2_with fail
      refine bodyPost_ret (v := .agg #[(.slice Au 0 cu), (.int .i64 q), (.slice Av n2 cv)]) (by obtain ⟨s0, s1, s2⟩ := ST.out; simp [results, Try.results32, go_sem, s0, s1, s2]) rfl ?_
      have HP := HE.out.post (.slice Au 0 cu) (.int .i64 q) (.slice Av n2 cv)
      rw [HN1.out, HN2.out] at HP
      exact HP
    obtain ⟨gu, hgu⟩ : ∃ g, Au = some ⟨g, 0, none⟩ := by
      have h := HW.out.o1
      rw [HN1.out] at h
      obtain ⟨g, c', e, -⟩ := Rw.of_own (n := n1) (by have h2 := h; unfold Ow at h2; rw [HN1.out] at h2; exact h2) HN1.out hpos
      obtain ⟨e, -, -⟩ := Value.slice.inj e
      exact ⟨g, e⟩
    subst hgu
    obtain ⟨bn, rfl⟩ : ∃ bn : Nat, b = (bn : Int) := ⟨b.toNat, by omega⟩
    have hr : bn % n1 < n1 := Nat.mod_lt _ hpos
    obtain ⟨r, er⟩ : ∃ r, bn % n1 = r := ⟨_, rfl⟩
    rw [er] at hr
    have e1 : (bn : Int).tmod (n1 : Int) = (r : Int) := by rw [Int.tmod_eq_emod_of_nonneg (by omega)]; omega
    have e2 : (bn : Int) % (n1 : Int) = (r : Int) := by omega
    have hr' : (r : Int) < (n1 : Int) := by omega
    have hp1 : (0 : Int) < (n1 : Int) := by omega
    have hrow := Rw.of_own (n := n1) (by have h2 := HW.out.o1; unfold Ow at h2; rw [HN1.out] at h2; exact h2) HN1.out hpos
    obtain ⟨g', c', e, -, -, hrow⟩ := hrow
    obtain ⟨e, -, -⟩ := Value.slice.inj e
    have e : gu = g' := by simpa using e
    subst e
    have kk := hrow.cell r (by rw [HN1.out]; exact hr)
    obtain ⟨k0, k1⟩ : ∃ k0, w5.cell? ⟨gu, r, none⟩ = some k0 := ⟨_, kk⟩
    clear kk
    have k2 := hrow.free r
    clear hrow er hr hpos
    have HE := Lib.hid (((show Bs ((w5.setCell ⟨gu, r, none⟩ (.int .i64 N)).drew) w (.slice (some ⟨gu, 0, none⟩) ((l1.set r N)).length cu) (l1.set r N) q (.slice Av (l2).length cv) l2 a (bn : Int) N by rw [List.length_set]; exact HW.out.set1 r)).en (by have := HK1.out; simp; omega) (by have := HK2.out; simp; omega) HQ.out)
    go_upto_region 9 with (fail)
    go_region
    generalize (w5.setCell ⟨gu, r, none⟩ (.int .i64 N)).drew = w6 at HE ⊢
    have hz := HE.out.grid
    rw [List.length_set, HN1.out, HN2.out] at hz
    obtain ⟨z0, z1, z2, -⟩ := hz
    obtain ⟨y0, y1, y2, y3⟩ := HE.out.out
    have g0 := y3 0; have g1 := y3 1; have g2 := y3 2
    have ST := Lib.hid (store_three y0 y1 y2 (.slice (some ⟨gu, 0, none⟩) n1 cu) (.int .i64 q) (.slice Av n2 cv))
    clear y3
    clear e1 e2
    go_wp2_with fail
    refine bodyPost_ret (v := .agg #[(.slice (some ⟨gu, 0, none⟩) n1 cu), (.int .i64 q), (.slice Av n2 cv)]) (by obtain ⟨s0, s1, s2⟩ := ST.out; simp [results, Try.results32, go_sem, s0, s1, s2]) rfl ?_
    have HP := HE.out.post (.slice (some ⟨gu, 0, none⟩) n1 cu) (.int .i64 q) (.slice Av n2 cv)
    rw [List.length_set, HN1.out, HN2.out] at HP
    exact HP
  · -- 2
    have hk : a % 8 = 2 := HCC.out
    clear HCC
    by_cases hpos : 0 < n2
    case neg =>
      obtain rfl : n2 = 0 := by omega
      have HE := Lib.hid (HW.out.en (by have := HK1.out; omega) (by have := HK2.out; omega) HQ.out)
      have hz := HE.out.grid
      rw [HN1.out, HN2.out] at hz
      obtain ⟨z0, z1, z2, -⟩ := hz
      obtain ⟨y0, y1, y2, y3⟩ := HE.out.out
      have g0 := y3 0; have g1 := y3 1; have g2 := y3 2
      have ST := Lib.hid (store_three y0 y1 y2 (.slice Au n1 cu) (.int .i64 q) (.slice Av 0 cv))
      clear y3
      go_wp2_with fail
      refine bodyPost_ret (v := .agg #[(.slice Au n1 cu), (.int .i64 q), (.slice Av 0 cv)]) (by obtain ⟨s0, s1, s2⟩ := ST.out; simp [results, Try.results32, go_sem, s0, s1, s2]) rfl ?_
      have HP := HE.out.post (.slice Au n1 cu) (.int .i64 q) (.slice Av 0 cv)
      rw [HN1.out, HN2.out] at HP
      exact HP
    obtain ⟨gu, hgu⟩ : ∃ g, Av = some ⟨g, 0, none⟩ := by
      have h := HW.out.o2
      rw [HN2.out] at h
      obtain ⟨g, c', e, -⟩ := Rw.of_own (n := n2) (by have h2 := h; unfold Ow at h2; rw [HN2.out] at h2; exact h2) HN2.out hpos
      obtain ⟨e, -, -⟩ := Value.slice.inj e
      exact ⟨g, e⟩
    subst hgu
    obtain ⟨bn, rfl⟩ : ∃ bn : Nat, b = (bn : Int) := ⟨b.toNat, by omega⟩
    have hr : bn % n2 < n2 := Nat.mod_lt _ hpos
    obtain ⟨r, er⟩ : ∃ r, bn % n2 = r := ⟨_, rfl⟩
    rw [er] at hr
    have e1 : (bn : Int).tmod (n2 : Int) = (r : Int) := by rw [Int.tmod_eq_emod_of_nonneg (by omega)]; omega
    have e2 : (bn : Int) % (n2 : Int) = (r : Int) := by omega
    have hr' : (r : Int) < (n2 : Int) := by omega
    have hp1 : (0 : Int) < (n2 : Int) := by omega
    have hrow := Rw.of_own (n := n2) (by have h2 := HW.out.o2; unfold Ow at h2; rw [HN2.out] at h2; exact h2) HN2.out hpos
    obtain ⟨g', c', e, -, -, hrow⟩ := hrow
    obtain ⟨e, -, -⟩ := Value.slice.inj e
    have e : gu = g' := by simpa using e
    subst e
    have kk := hrow.cell r (by rw [HN2.out]; exact hr)
    obtain ⟨k0, k1⟩ : ∃ k0, w5.cell? ⟨gu, r, none⟩ = some k0 := ⟨_, kk⟩
    clear kk
    have k2 := hrow.free r
    clear hrow er hr hpos
    have HE := Lib.hid (((show Bs ((w5.setCell ⟨gu, r, none⟩ (.int .i64 N)).drew) w (.slice Au (l1).length cu) l1 q (.slice (some ⟨gu, 0, none⟩) ((l2.set r N)).length cv) (l2.set r N) a (bn : Int) N by rw [List.length_set]; exact HW.out.set2 r)).en (by have := HK1.out; simp; omega) (by have := HK2.out; simp; omega) HQ.out)
    go_upto_region 13 with (fail)
    go_region
    generalize (w5.setCell ⟨gu, r, none⟩ (.int .i64 N)).drew = w6 at HE ⊢
    have hz := HE.out.grid
    rw [List.length_set, HN1.out, HN2.out] at hz
    obtain ⟨z0, z1, z2, -⟩ := hz
    obtain ⟨y0, y1, y2, y3⟩ := HE.out.out
    have g0 := y3 0; have g1 := y3 1; have g2 := y3 2
    have ST := Lib.hid (store_three y0 y1 y2 (.slice Au n1 cu) (.int .i64 q) (.slice (some ⟨gu, 0, none⟩) n2 cv))
    clear y3
    clear e1 e2
    go_wp2_with fail
    refine bodyPost_ret (v := .agg #[(.slice Au n1 cu), (.int .i64 q), (.slice (some ⟨gu, 0, none⟩) n2 cv)]) (by obtain ⟨s0, s1, s2⟩ := ST.out; simp [results, Try.results32, go_sem, s0, s1, s2]) rfl ?_
    have HP := HE.out.post (.slice Au n1 cu) (.int .i64 q) (.slice (some ⟨gu, 0, none⟩) n2 cv)
    rw [List.length_set, HN1.out, HN2.out] at HP
    exact HP
  · -- 3
    have hk : a % 8 = 3 := HCC.out
    clear HCC
    obtain ⟨bn, rfl⟩ : ∃ bn : Nat, b = (bn : Int) := ⟨b.toNat, by omega⟩
    obtain ⟨t, ht⟩ : ∃ t, bn % 2 = t := ⟨_, rfl⟩
    have e1 : (bn : Int).tmod 2 = (t : Int) := by rw [Int.tmod_eq_emod_of_nonneg (by omega)]; omega
    have e2 : (bn : Int) % 2 = (t : Int) := by omega
    obtain ⟨k, hmin⟩ : ∃ k, min n1 t = k := ⟨_, rfl⟩
    have f8 : min (n1 : Int) (t : Int) = (k : Int) := by omega
    have g8 : (if (n1 : Int) ≤ (t : Int) then (n1 : Int) else (t : Int)) = (k : Int) := by split <;> omega
    have g8' : (if (t : Int) < (n1 : Int) then (t : Int) else (n1 : Int)) = (k : Int) := by split <;> omega
    have hkn : k ≤ n1 := by omega
    have hkc : (k : Int) ≤ (cu : Int) := by have h := HW.out.o1.ls; have := HN1.out; omega
    have HE := Lib.hid (HW.out.cut k (by rw [HN1.out]; exact hkn) (by have := HK1.out; omega) (by have := HK2.out; omega) HQ.out)
    have LK := Lib.hid (show (l1.take k).length = k by rw [List.length_take, HN1.out]; omega)
    clear ht hmin hkn
    have hz := HE.out.grid
    rw [LK.out, HN2.out] at hz
    obtain ⟨z0, z1, z2, -⟩ := hz
    obtain ⟨y0, y1, y2, y3⟩ := HE.out.out
    have g0 := y3 0; have g1 := y3 1; have g2 := y3 2
    have ST := Lib.hid (store_three y0 y1 y2 (.slice Au k cu) (.int .i64 q) (.slice Av n2 cv))
    clear y3
    go_wp2_with fail
    refine bodyPost_ret (v := .agg #[(.slice Au k cu), (.int .i64 q), (.slice Av n2 cv)]) (by obtain ⟨s0, s1, s2⟩ := ST.out; simp [results, Try.results32, go_sem, s0, s1, s2]) rfl ?_
    have HP := HE.out.post (.slice Au k cu) (.int .i64 q) (.slice Av n2 cv)
    rw [LK.out, HN2.out] at HP
    exact HP
  · -- 4
    have hk : a % 8 = 4 := HCC.out
    clear HCC
    have hgb := HW.out.grid.keep (Bl.new w5 (.cells #[.int .i64 2] 3))
    rw [HN1.out, HN2.out] at hgb
    obtain ⟨u0, u1, u2, u3⟩ := hgb
    go_wp2_with (at_builtin; refine wpList_append_ls _ rfl _ _ rfl (w.heap.size + 3) (.slice Au n1 cu) l1 rfl ?c1 _ 1 [2] rfl ?c2 ?c3 ?c4 ?_)
    case c1 => have h := HW.out.o1.keep (Bl.new w5 (.cells #[.int .i64 2] 3)); rw [HN1.out] at h; exact h
    case c2 => exact Ls.one w5 2
    case c3 => have := HK1.out; simp; omega
    case c4 => have := HW.out.big; simp; omega
    intro vv w6 hu hg6 ha6
    obtain ⟨e, he⟩ : ∃ e, l1 ++ [2] = e := ⟨_, rfl⟩
    rw [he] at hu
    have el : e.length = n1 + 1 := by rw [← he, List.length_append, HN1.out]; rfl
    obtain ⟨A', c', rfl, -, -⟩ := hu.addr
    have hg7 := ((HW.out.grid.keep (Bl.new w5 (.cells #[.int .i64 2] 3))).grown hg6 (fun k hk => by
      have h := HW.out.o1
      rw [HN1.out] at h
      have := (h.lt k hk).1
      omega))
    rw [HN1.out, HN2.out] at hg7
    obtain ⟨t0, t1, t2, t3⟩ := hg7
    have ff := t3 0
    have hB := HW.out.grow1 (Bl.new w5 (.cells #[.int .i64 2] 3)) hg6 (.inl (by rw [HN1.out])) (by simpa using ha6) hu
    have HE := Lib.hid (hB.en (by have := HK1.out; first | omega | (have := HN1.out; omega)) (by have := HK2.out; first | omega | (have := HN1.out; omega)) HQ.out)
    clear u0 u1 u2 u3 t3 hu hg6 ha6 hB he
    have hz := HE.out.grid
    rw [HN2.out] at hz
    obtain ⟨z0, z1, z2, -⟩ := hz
    obtain ⟨y0, y1, y2, y3⟩ := HE.out.out
    have g0 := y3 0; have g1 := y3 1; have g2 := y3 2
    have ST := Lib.hid (store_three y0 y1 y2 (.slice A' e.length c') (.int .i64 q) (.slice Av n2 cv))
    clear y3
    clear el
    go_wp2_with fail
    refine bodyPost_ret (v := .agg #[(.slice A' e.length c'), (.int .i64 q), (.slice Av n2 cv)]) (by obtain ⟨s0, s1, s2⟩ := ST.out; simp [results, Try.results32, go_sem, s0, s1, s2]) rfl ?_
    have HP := HE.out.post (.slice A' e.length c') (.int .i64 q) (.slice Av n2 cv)
    rw [HN2.out] at HP
    exact HP
  · -- 5
    have hk : a % 8 = 5 := HCC.out
    clear HCC
    have hgb := HW.out.grid.keep (Bl.new w5 (.cells #[.int .i64 N] 3))
    rw [HN1.out, HN2.out] at hgb
    obtain ⟨u0, u1, u2, u3⟩ := hgb
    go_wp2_with (at_builtin; refine wpList_append_ls _ rfl _ _ rfl (w.heap.size + 3) (.slice Av n2 cv) l2 rfl ?c1 _ 1 [N] rfl ?c2 ?c3 ?c4 ?_)
    case c1 => have h := HW.out.o2.keep (Bl.new w5 (.cells #[.int .i64 N] 3)); rw [HN2.out] at h; exact h
    case c2 => exact Ls.one w5 N
    case c3 => have := HK2.out; simp; omega
    case c4 => have := HW.out.big; simp; omega
    intro vv w6 hu hg6 ha6
    obtain ⟨e, he⟩ : ∃ e, l2 ++ [N] = e := ⟨_, rfl⟩
    rw [he] at hu
    have el : e.length = n2 + 1 := by rw [← he, List.length_append, HN2.out]; rfl
    obtain ⟨A', c', rfl, -, -⟩ := hu.addr
    have hg7 := ((HW.out.grid.keep (Bl.new w5 (.cells #[.int .i64 N] 3))).grown hg6 (fun k hk => by
      have h := HW.out.o2
      rw [HN2.out] at h
      have := (h.lt k hk).1
      omega))
    rw [HN1.out, HN2.out] at hg7
    obtain ⟨t0, t1, t2, t3⟩ := hg7
    have ff := t3 2
    have hB := HW.out.grow2 (Bl.new w5 (.cells #[.int .i64 N] 3)) hg6 (.inl (by rw [HN2.out])) (by simpa using ha6) hu
    have HE := Lib.hid (hB.en (by have := HK1.out; first | omega | (have := HN2.out; omega)) (by have := HK2.out; first | omega | (have := HN2.out; omega)) HQ.out)
    clear u0 u1 u2 u3 t3 hu hg6 ha6 hB he
    have hz := HE.out.grid
    rw [HN1.out] at hz
    obtain ⟨z0, z1, z2, -⟩ := hz
    obtain ⟨y0, y1, y2, y3⟩ := HE.out.out
    have g0 := y3 0; have g1 := y3 1; have g2 := y3 2
    have ST := Lib.hid (store_three y0 y1 y2 (.slice Au n1 cu) (.int .i64 q) (.slice A' e.length c'))
    clear y3
    clear el
    go_wp2_with fail
    refine bodyPost_ret (v := .agg #[(.slice Au n1 cu), (.int .i64 q), (.slice A' e.length c')]) (by obtain ⟨s0, s1, s2⟩ := ST.out; simp [results, Try.results32, go_sem, s0, s1, s2]) rfl ?_
    have HP := HE.out.post (.slice Au n1 cu) (.int .i64 q) (.slice A' e.length c')
    rw [HN1.out] at HP
    exact HP
  · -- 6
    have hk : a % 8 = 6 := HCC.out
    clear HCC
    obtain ⟨bn, rfl⟩ : ∃ bn : Nat, b = (bn : Int) := ⟨b.toNat, by omega⟩
    obtain ⟨t, ht⟩ : ∃ t, bn % 2 = t := ⟨_, rfl⟩
    have e1 : (bn : Int).tmod 2 = (t : Int) := by rw [Int.tmod_eq_emod_of_nonneg (by omega)]; omega
    have e2 : (bn : Int) % 2 = (t : Int) := by omega
    obtain ⟨t4, ht4⟩ : ∃ k, 4 + t = k := ⟨_, rfl⟩
    have e3 : (4 : Int) + (t : Int) = (t4 : Int) := by omega
    have t5 : t4 ≤ 5 := by omega
    have e4 : IntKind.i64.wrap (t4 : Int) = (t4 : Int) := IntWalk.i64_in _ (by omega)
    have HS := Lib.hid (show Bs w5 w (.slice Au l1.length cu) l1 q (.slice Av l2.length cv) l2 a (bn : Int) N from HW.out)
    clear ht ht4 HW
    clear c0 c1 c2 f0 f1 f2 n8 m5
    go_wp2_with fail
    rw [hk]
    clear hk
    go_loopw [81] (fun _ wr => ∃ (A1 : Option Addr) (c1 : Nat) (s1 : List Int) (A2 : Option Addr) (c2 : Nat) (s2 : List Int), Bs wr w (.slice A1 s1.length c1) s1 q (.slice A2 s2.length c2) s2 a (bn : Int) N ∧ s1.length ≤ 8 ∧ (s2.length ≤ 5000 ∨ s1.length ≤ 5) ∧ s2.length ≤ 5000 + 4096 * s1.length) (fun _ wr => 9 - lenOf (wr.cell? ⟨w.heap.size + 1, 0, none⟩))
    case atStart => exact ⟨Au, cu, l1, Av, cv, l2, HS.out, HK1.out, .inl HK2.out, by have := HK2.out; omega⟩
    case round =>
      clear d0 d1 d2
      obtain ⟨A1, c1, s1, A2, c2, s2, hbs, r1, r2, r3⟩ := hrel
      obtain ⟨p1, hp1⟩ : ∃ p, s1.length = p := ⟨_, rfl⟩
      obtain ⟨p2, hp2⟩ : ∃ p, s2.length = p := ⟨_, rfl⟩
      have RB := Lib.hid hbs; have R1 := Lib.hid r1; have R2 := Lib.hid r2; have R3 := Lib.hid r3; have HP1 := Lib.hid hp1; have HP2 := Lib.hid hp2
      have p8 : (p1 : Int) ≤ 8 := by omega
      have q8 : (p2 : Int) ≤ 40000 := by omega
      obtain ⟨v0, v1, v2, v3⟩ := hbs.grid
      rw [hp1] at v0
      rw [hp2] at v2
      have q0 := v3 0; have q1 := v3 1; have q2 := v3 2
      clear hbs r1 r2 r3 hp1 hp2 v3
      by_cases hlt : p1 < t4
      · have hlt' : (p1 : Int) < (t4 : Int) := by omega
        have hgb := RB.out.grid.keep (Bl.new wr (.cells #[.int .i64 2] 3))
        rw [HP1.out, HP2.out] at hgb
        obtain ⟨u0, u1, u2, u3⟩ := hgb
        go_wp2_with (at_builtin; refine wpList_append_ls _ rfl _ _ rfl (w.heap.size + 3) (.slice (some ⟨wr.heap.size, 0, none⟩) 1 1) [2] rfl ?c1 A1 c1 s1 ?c2 ?c3 ?c4 ?c5 ?_)
        case c1 => exact Ow.one wr _ 2 RB.out.big
        case c2 => first | rfl | (rw [HP1.out]; rfl)
        case c3 => exact RB.out.o1.ls.1.keep (Bl.new _ _)
        case c4 => have := R1.out; simp; omega
        case c5 => have := RB.out.big; simp; omega
        intro vv w6 hu hg6 ha6
        obtain ⟨e, he⟩ : ∃ e, 2 :: s1 = e := ⟨_, rfl⟩
        rw [he] at hu
        have el : e.length = p1 + 1 := by rw [← he, List.length_cons, HP1.out]
        obtain ⟨A', c', rfl, -, -⟩ := hu.addr
        have hg7 := (RB.out.grid.keep (Bl.new wr (.cells #[.int .i64 2] 3))).grown hg6 (fun k hk => by
          have h1 : wr.heap.size = k := by simpa [Value.ownBlock] using hk
          have := RB.out.big
          omega)
        rw [HP1.out, HP2.out] at hg7
        obtain ⟨t0, t1, t2, t3⟩ := hg7
        have ff := t3 0
        have HB := Lib.hid (RB.out.grow1 (Bl.new wr (.cells #[.int .i64 2] 3)) hg6 (.inr rfl) (by simpa using ha6) hu)
        have EL := Lib.hid el
        clear u0 u1 u2 u3 t3 hu hg6 ha6 he el v0 v1 v2 q0 q1 q2
        go_wp2_with fail
        generalize w6.setCell ⟨w.heap.size + 1, 0, none⟩ (.slice A' e.length c') = w7 at HB ⊢
        clear t0 t1 t2 ff
        obtain ⟨k2, hmin⟩ : ∃ k, min p2 4096 = k := ⟨_, rfl⟩
        have f8 : min (p2 : Int) 4096 = (k2 : Int) := by omega
        have g8 : (if (p2 : Int) ≤ 4096 then (p2 : Int) else 4096) = (k2 : Int) := by split <;> omega
        have g8' : (if (4096 : Int) < (p2 : Int) then 4096 else (p2 : Int)) = (k2 : Int) := by split <;> omega
        have hkc : (k2 : Int) ≤ (c2 : Int) := by have h := HB.out.o2.ls; have := HP2.out; omega
        have HL := Lib.hid (show (s2.take k2).length = k2 by rw [List.length_take, HP2.out]; omega)
        obtain ⟨L3, hL3⟩ : ∃ L, s2 ++ s2.take k2 = L := ⟨_, rfl⟩
        have HL3 := Lib.hid hL3
        have HL3n := Lib.hid (show L3.length = p2 + k2 by rw [← hL3, List.length_append, HP2.out, HL.out])
        clear hL3
        have HKP := Lib.hid (show k2 ≤ 4096 by omega)
        clear hmin
        have hgd := HB.out.grid.keep (Bl.refl w7).drew
        rw [HP2.out] at hgd
        have HGD := Lib.hid hgd
        have ho := HB.out.o2.keep (Bl.refl w7).drew
        rw [HP2.out] at ho
        have HO := Lib.hid ho
        have HBLK := Lib.hid (show ∀ k, (Value.slice A2 p2 c2).ownBlock = some k → w.heap.size + 1 + 1 ≤ k from fun k hk => by have := (ho.lt k hk).1; omega)
        have HLS := Lib.hid ((HB.out.o2.ls.1.take k2).keep (Bl.refl w7).drew)
        have HSUM := Lib.hid (show s2.length + (s2.take k2).length ≤ 1000000 by have := HL.out; have := HP2.out; omega)
        have HBIG := Lib.hid (show w.heap.size + 3 ≤ w7.drew.heap.size from HB.out.big)
        obtain ⟨v0, v1, v2, v3⟩ := HB.out.grid
        rw [HP2.out] at v2
        obtain ⟨x0, x1, x2, x3⟩ := hgd
        have q2 := v3 2
        clear ho v3 x3
        go_region_law (refine step_append_ls rfl (.tmp 94) (.tmp 101) rfl (w.heap.size + 3) (.slice A2 p2 c2) s2 (by simp [Act.eval, Act.put]) HO.out A2 c2 (s2.take k2) k2 HL.out (by simp [Act.eval, Act.put]) HLS.out L3 HL3.out HSUM.out HBIG.out ?_; intro A3 c3 w8 hu hg6 ha6; obtain ⟨t0, t1, t2, t3⟩ := HGD.out.grown hg6 HBLK.out; have ff := t3 2; have HU := Lib.hid hu; have HG := Lib.hid hg6; have HA := Lib.hid ha6; clear hu hg6 ha6 t3)
        all_goals
          have HB2 := Lib.hid (HB.out.grow2 (Bl.refl w7).drew HG.out (.inl (by rw [HP2.out])) HA.out HU.out)
          clear HG HA HU t0 t1 t2 ff v0 v1 v2 x0 x1 x2 q2 f8 g8 g8'
          go_wp2_with fail
          go_roundw
          case rel =>
            have F1 : e.length ≤ 8 := by have := EL.out; omega
            have F2 : L3.length ≤ 5000 ∨ e.length ≤ 5 := .inr (by have := EL.out; omega)
            have F3 : L3.length ≤ 5000 + 4096 * e.length := by have := EL.out; have := HL3n.out; have := HKP.out; have := R3.out; have := HP1.out; have := HP2.out; omega
            first | exact ⟨A', c', e, A3, c3, L3, HB2.out, F1, F2, F3⟩ | ((repeat apply Exists.intro); exact ⟨⟨A', c', e, A3, c3, L3, HB2.out, F1, F2, F3⟩, rfl⟩)
          case measure =>
            have h1 := HB2.out.grid.c0
            have h2 := RB.out.grid.c0
            rw [h1, h2]
            have := EL.out; have := HP1.out
            simp only [lenOf]
            omega
      · have HE := Lib.hid (RB.out.en (by have := R1.out; omega) (by have := R2.out; have := R3.out; omega) HQ.out)
        clear v0 v1 v2 q0 q1 q2
        have hz := HE.out.grid
        rw [HP1.out, HP2.out] at hz
        obtain ⟨z0, z1, z2, -⟩ := hz
        obtain ⟨y0, y1, y2, y3⟩ := HE.out.out
        have g0 := y3 0; have g1 := y3 1; have g2 := y3 2
        have ST := Lib.hid (store_three y0 y1 y2 (.slice A1 p1 c1) (.int .i64 q) (.slice A2 p2 c2))
        clear y3
        go_wp2_with fail
        refine bodyPost_ret (v := .agg #[(.slice A1 p1 c1), (.int .i64 q), (.slice A2 p2 c2)]) (by obtain ⟨s0, s1, s2⟩ := ST.out; simp [results, Try.results32, go_sem, s0, s1, s2]) rfl ?_
        have HP := HE.out.post (.slice A1 p1 c1) (.int .i64 q) (.slice A2 p2 c2)
        rw [HP1.out, HP2.out] at HP
        exact HP
  · -- 7
    have hk : a % 8 = 7 := HCC.out
    clear HCC
    have HE := Lib.hid (HW.out.en (by have := HK1.out; omega) (by have := HK2.out; omega) HQ.out)
    have hz := HE.out.grid
    rw [HN1.out, HN2.out] at hz
    obtain ⟨z0, z1, z2, -⟩ := hz
    obtain ⟨y0, y1, y2, y3⟩ := HE.out.out
    have g0 := y3 0; have g1 := y3 1; have g2 := y3 2
    have ST := Lib.hid (store_three y0 y1 y2 (.slice Au n1 cu) (.int .i64 q) (.slice Av n2 cv))
    clear y3
    go_wp2_with fail
    refine bodyPost_ret (v := .agg #[(.slice Au n1 cu), (.int .i64 q), (.slice Av n2 cv)]) (by obtain ⟨s0, s1, s2⟩ := ST.out; simp [results, Try.results32, go_sem, s0, s1, s2]) rfl ?_
    have HP := HE.out.post (.slice Au n1 cu) (.int .i64 q) (.slice Av n2 cv)
    rw [HN1.out, HN2.out] at HP
    exact HP
end Go.Proofs.Ytjinpngojdefiaa
