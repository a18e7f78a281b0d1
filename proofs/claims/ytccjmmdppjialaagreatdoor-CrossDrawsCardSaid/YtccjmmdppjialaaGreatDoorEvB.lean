/- The evaluator, B: a new block, a row written anew, a cell read, an operation that only reckons. -/
import Derived.Test.YtccjmmdppjialaaGreatDoorEvA
import Derived.Laws.Tables
namespace Go.Proofs.YtccjmmdppjialaaGreatDoor
open Go.RowKit
namespace Ev

theorem MR.of_heap {r : Nat → Option (Nat × Nat)} {M : Mem} {w w' : World} (h : MR r M w) (hh : w'.heap = w.heap) : MR r M w' :=
  ⟨fun i cs hl => by obtain ⟨g, t, cc, h1, h2, h3⟩ := h.blk i cs hl; exact ⟨g, t, cc, h1, by rw [hh]; exact h2, h3⟩, h.inj, h.bound, h.glob, fun i o hl => by obtain ⟨g, x, h1, h2, h3⟩ := h.obj i o hl; exact ⟨g, x, h1, by rw [hh]; exact h2, h3⟩, h.injO⟩
theorem Stp.drew (r : Nat → Option (Nat × Nat)) (M : Mem) (w : World) : Stp r M w r M w.drew :=
  ⟨fun _ _ h => h, rfl, Nat.le_refl _, fun _ cs h _ => ⟨cs, h⟩, rfl, rfl, rfl, Nat.le_refl _, fun _ _ _ _ => rfl, fun i cs g h1 h2 h3 _ => ⟨i, cs, g, h1, h2, h3, rfl⟩, rfl, fun i o g h1 h2 _ => ⟨i, o, g, h1, h2, rfl⟩⟩

/-- Fewer blocks known: a weaker word. -/
theorem MR.fewer {r : Nat → Option (Nat × Nat)} {M : Mem} {w : World} (h : MR r M w) {bl : List (Nat × List Value)} (hb : ∀ i cs, look bl i = some cs → look M.bl i = some cs) : MR r { M with bl := bl, gl := [], ob := [] } w :=
  ⟨fun i cs hl => h.blk i cs (hb i cs hl), fun i j cs ds g g' h1 h2 => h.inj i j cs ds g g' (hb _ _ h1) (hb _ _ h2), h.bound, fun _ _ hl => (by cases hl), fun _ _ hl => (by cases hl), fun _ _ _ _ _ _ hl => (by cases hl)⟩
theorem MR.sub {r : Nat → Option (Nat × Nat)} {M : Mem} {w : World} (h : MR r M w) {bl : List (Nat × List Value)} (hb : ∀ i cs, look bl i = some cs → look M.bl i = some cs) (hg : ∀ i cs, look M.gl i = some cs → look bl i = some cs) : MR r { M with bl := bl } w :=
  ⟨fun i cs hl => h.blk i cs (hb i cs hl), fun i j cs ds g g' h1 h2 => h.inj i j cs ds g g' (hb _ _ h1) (hb _ _ h2), h.bound, fun i cs hl => ⟨(h.glob i cs hl).1, hg i cs hl, (h.glob i cs hl).2.2⟩, h.obj, h.injO⟩
theorem Stp.fewer {r r' : Nat → Option (Nat × Nat)} {M M' : Mem} {w w' : World} (h : Stp r M w r' M' w') {bl : List (Nat × List Value)} (hb : ∀ i cs, look bl i = some cs → look M'.bl i = some cs) : Stp r M w r' { M' with bl := bl } w' :=
  ⟨h.ext, h.lo, h.next, fun i cs h1 => h.old i cs (hb _ _ h1), h.os, h.tape, h.output, h.size, h.keep, fun i cs g h1 h2 => h.anc i cs g h1 (hb _ _ h2), h.gl, h.ancO⟩

/-! ### A new block. -/
def Mem.newZ (M : Mem) (z : Nat) (cs : List Value) : Mem := { M with next := M.next + 1, bl := (64 * M.next + z, cs) :: M.bl }
def Mem.new (M : Mem) (cs : List Value) : Mem := M.newZ 0 cs
def more (r : Nat → Option (Nat × Nat)) (i : Nat) (g : Nat × Nat) : Nat → Option (Nat × Nat) := fun j => if j = i then some g else r j

theorem more_self (r : Nat → Option (Nat × Nat)) (i : Nat) (g : Nat × Nat) : more r i g i = some g := by simp [more]
theorem more_ext {r : Nat → Option (Nat × Nat)} {k : Nat} (hb : ∀ i g, r i = some g → i ≠ k) (g : Nat × Nat) : ∀ i h, r i = some h → more r k g i = some h := fun i h hi => by
  have := hb i h hi
  unfold more
  rw [if_neg this]
  exact hi

theorem MR.ne {r : Nat → Option (Nat × Nat)} {M : Mem} {w : World} (h : MR r M w) (z : Nat) : ∀ i g, r i = some g → i ≠ 64 * M.next + z := fun i g hi e => by
  have := h.bound i g hi; omega

theorem new_sound {r : Nat → Option (Nat × Nat)} {M : Mem} {w w' : World} (hM : MR r M w) {cs : List Value} {cc : Array Value} {t : TypeId} (z T : Nat) (hz : z < 64) (hT : 0 < z → cc.size = T)
    (hrel : ∀ (j : Nat) v, cs[j]? = some v → ∃ v', cc[j]? = some v' ∧ VR r v v') (hw : w'.heap = w.heap.push (.cells cc t (0, 0))) (ho : w'.os = w.os) (ht : w'.tape = w.tape) (hu : w'.output = w.output) :
    MR (more r (64 * M.next + z) (w.heap.size, T)) (M.newZ z cs) w' ∧ Stp r M w (more r (64 * M.next + z) (w.heap.size, T)) (M.newZ z cs) w' := by
  have hext := more_ext (hM.ne z) (w.heap.size, T)
  have hself := more_self r (64 * M.next + z) (w.heap.size, T)
  have hold : ∀ g, g < w.heap.size → w'.heap[g]? = w.heap[g]? := fun g hg => by
    rw [hw, Array.getElem?_push, if_neg (by omega)]
  refine ⟨⟨?_, ?_, ?_, ?_, ?_, ?_⟩, ⟨hext, rfl, Nat.le_succ _, fun i cs hl hi => ⟨cs, by simp only [Mem.newZ, look_cons] at hl; rwa [if_neg (by omega)] at hl⟩, ho, ht, hu, by rw [hw]; simp, fun g hg _ _ => hold g hg, ?_, rfl, ?_⟩⟩
  · intro i ds hl
    simp only [Mem.newZ, look_cons] at hl
    by_cases hi : 64 * M.next + z = i
    · subst hi
      rw [if_pos rfl] at hl
      cases hl
      refine ⟨(w.heap.size, T), t, cc, hself, by rw [hw]; simp, fun h0 => hT (by omega), fun j v hv => ?_⟩
      obtain ⟨v', h1, h2⟩ := hrel j v hv
      exact ⟨v', h1, h2.mono hext⟩
    · rw [if_neg hi] at hl
      obtain ⟨g, t', cc', h1, h2, h2', h3⟩ := hM.blk i ds hl
      refine ⟨g, t', cc', hext _ _ h1, by rw [hold g.1 (hM.lt hl h1)]; exact h2, h2', fun j v hv => ?_⟩
      obtain ⟨v', h4, h5⟩ := h3 j v hv
      exact ⟨v', h4, h5.mono hext⟩
  · intro i j ds es g g' hl hl' hi hj hgg
    simp only [Mem.newZ, look_cons] at hl hl'
    have key : ∀ k fs h, look M.bl k = some fs → more r (64 * M.next + z) (w.heap.size, T) k = some h → h.1 = w.heap.size → False := fun k fs h hk he e => by
      obtain ⟨g', t', cc', h1, h2, _⟩ := hM.blk k fs hk
      rw [hext _ _ h1] at he
      have := hM.lt hk h1
      cases he; omega
    by_cases hin : 64 * M.next + z = i
    · subst hin
      rw [hself] at hi; cases hi
      by_cases hjn : 64 * M.next + z = j
      · exact hjn
      · rw [if_neg hjn] at hl'; exact (key _ _ _ hl' hj hgg.symm).elim
    · rw [if_neg hin] at hl
      by_cases hjn : 64 * M.next + z = j
      · subst hjn
        rw [hself] at hj; cases hj
        exact (key _ _ _ hl hi hgg).elim
      · rw [if_neg hjn] at hl'
        obtain ⟨g1, _, _, h1, _⟩ := hM.blk i ds hl
        obtain ⟨g2, _, _, h2, _⟩ := hM.blk j es hl'
        have e1 := hext _ _ h1
        have e2 := hext _ _ h2
        rw [hi] at e1; rw [hj] at e2; cases e1; cases e2
        exact hM.inj i j ds es _ _ hl hl' h1 h2 hgg
  · intro i g hi
    simp only [more] at hi
    simp only [Mem.newZ]
    split at hi
    · omega
    · have := hM.bound i g hi; omega
  · intro i ds hl
    obtain ⟨h1, h2, ⟨s, h4⟩, h5⟩ := hM.glob i ds hl
    obtain ⟨g, _, _, h3, _⟩ := hM.blk i ds h2
    refine ⟨h1, ?_, ⟨s, hext _ _ h4⟩, h5⟩
    simp only [Mem.newZ, look_cons]
    rw [if_neg (hM.ne z i g h3).symm]
    exact h2
  · intro i o hl
    obtain ⟨g, x, h1, h2, h3⟩ := hM.obj i o hl
    exact ⟨g, x, hext _ _ h1, by rw [hold g.1 (hM.ltO hl h1)]; exact h2, h3.mono hext⟩
  · intro i j o p g k hl hl' hi hj e
    obtain ⟨g1, _, h1, _⟩ := hM.obj i o hl
    obtain ⟨g2, _, h2, _⟩ := hM.obj j p hl'
    have e1 := hext _ _ h1
    have e2 := hext _ _ h2
    rw [hi] at e1; rw [hj] at e2; cases e1; cases e2
    exact hM.injO i j o p _ _ hl hl' h1 h2 e
  · intro i ds g hlo hl hi hg
    simp only [Mem.newZ, look_cons] at hl
    by_cases hin : 64 * M.next + z = i
    · subst hin; rw [hself] at hi; cases hi; simp at hg
    · rw [if_neg hin] at hl
      obtain ⟨g1, _, _, h1, _⟩ := hM.blk i ds hl
      have e1 := hext _ _ h1
      rw [hi] at e1; cases e1
      exact ⟨i, ds, _, hlo, hl, h1, rfl⟩
  · intro i o g hl hi _
    obtain ⟨g1, _, h1, _⟩ := hM.obj i o hl
    have e1 := hext _ _ h1
    rw [hi] at e1; cases e1
    exact ⟨i, o, _, hl, h1, rfl⟩

/-- A known block goes on under a new name, its row written anew: what an append that found room is, told as one that made a new block. -/
theorem over_sound {r : Nat → Option (Nat × Nat)} {M : Mem} {w w' : World} (hM : MR r M w) {i : Nat} {g : Nat × Nat} {cs ds : List Value} {t : TypeId} {cc : Array Value} (z : Nat) (hlo : M.lo ≤ i) (hl : look M.bl i = some cs) (hi : r i = some g)
    (hz : z < 64) (hT : 0 < z → cc.size = g.2)
    (hrel : ∀ (j : Nat) v, ds[j]? = some v → ∃ v', cc[j]? = some v' ∧ VR r v v') (hg : w'.heap[g.1]? = some (.cells cc t (0, 0))) (hk : ∀ k, k ≠ g.1 → w'.heap[k]? = w.heap[k]?) (hs : w'.heap.size = w.heap.size)
    (ho : w'.os = w.os) (ht : w'.tape = w.tape) (hu : w'.output = w.output) :
    MR (more r (64 * M.next + z) g) { M with next := M.next + 1, bl := (64 * M.next + z, ds) :: kill M.bl i } w' ∧ Stp r M w (more r (64 * M.next + z) g) { M with next := M.next + 1, bl := (64 * M.next + z, ds) :: kill M.bl i } w' := by
  have hext := more_ext (hM.ne z) g
  have hself := more_self r (64 * M.next + z) g
  have hk' : ∀ k fs, look (kill M.bl i) k = some fs → i ≠ k ∧ look M.bl k = some fs := fun k fs h => by
    rw [look_kill] at h
    split at h
    · cases h
    · rename_i e; exact ⟨e, h⟩
  have hne : ∀ j es h, look M.bl j = some es → r j = some h → i ≠ j → h.1 ≠ g.1 := fun j es h hj hr hij e =>
    hij (hM.inj i j cs es g h hl hj hi hr e.symm)
  refine ⟨⟨?_, ?_, ?_, ?_, ?_, ?_⟩, ⟨hext, rfl, Nat.le_succ _, fun i' cs' hl' hi' => ⟨cs', by simp only [look_cons] at hl'; rw [if_neg (by omega)] at hl'; exact (hk' _ _ hl').2⟩, ho, ht, hu, by omega, fun k _ hn _ => hk k fun e => hn i cs g hlo hl hi e.symm, ?_, rfl, ?_⟩⟩
  · intro k fs hf
    simp only [look_cons] at hf
    by_cases hkk : 64 * M.next + z = k
    · subst hkk
      rw [if_pos rfl] at hf; cases hf
      refine ⟨g, t, cc, hself, hg, fun h0 => hT (by omega), fun j v hv => ?_⟩
      obtain ⟨v', h1, h2⟩ := hrel j v hv
      exact ⟨v', h1, h2.mono hext⟩
    · rw [if_neg hkk] at hf
      obtain ⟨hik, hf⟩ := hk' k fs hf
      obtain ⟨h, t', cc', h1, h2, h2', h3⟩ := hM.blk k fs hf
      refine ⟨h, t', cc', hext _ _ h1, by rw [hk h.1 (hne k fs h hf h1 hik)]; exact h2, h2', fun j v hv => ?_⟩
      obtain ⟨v', h4, h5⟩ := h3 j v hv
      exact ⟨v', h4, h5.mono hext⟩
  · intro j k es fs h h' hl1 hl2 hr1 hr2 hh
    simp only [look_cons] at hl1 hl2
    have key : ∀ k fs h, look (kill M.bl i) k = some fs → more r (64 * M.next + z) g k = some h → h.1 = g.1 → False := fun k fs h hf he e => by
      obtain ⟨hik, hf⟩ := hk' k fs hf
      obtain ⟨g', t', cc', h1, _⟩ := hM.blk k fs hf
      rw [hext _ _ h1] at he; cases he
      exact hne k fs _ hf h1 hik e
    by_cases hj : 64 * M.next + z = j
    · subst hj
      rw [hself] at hr1; cases hr1
      by_cases hk2 : 64 * M.next + z = k
      · exact hk2
      · rw [if_neg hk2] at hl2; exact (key _ _ _ hl2 hr2 hh.symm).elim
    · rw [if_neg hj] at hl1
      by_cases hk2 : 64 * M.next + z = k
      · subst hk2
        rw [hself] at hr2; cases hr2
        exact (key _ _ _ hl1 hr1 hh).elim
      · rw [if_neg hk2] at hl2
        obtain ⟨_, hl1⟩ := hk' _ _ hl1
        obtain ⟨_, hl2⟩ := hk' _ _ hl2
        obtain ⟨g1, _, _, h1, _⟩ := hM.blk j es hl1
        obtain ⟨g2, _, _, h2, _⟩ := hM.blk k fs hl2
        have e1 := hext _ _ h1
        have e2 := hext _ _ h2
        rw [hr1] at e1; rw [hr2] at e2; cases e1; cases e2
        exact hM.inj j k es fs _ _ hl1 hl2 h1 h2 hh
  · intro j h hj
    simp only [more] at hj
    simp only
    split at hj
    · omega
    · have := hM.bound j h hj; omega
  · intro j es hj
    obtain ⟨h1, h2, ⟨s, h4⟩, h5⟩ := hM.glob j es hj
    obtain ⟨g1, _, _, h3, _⟩ := hM.blk j es h2
    refine ⟨h1, ?_, ⟨s, hext _ _ h4⟩, h5⟩
    simp only [look_cons, look_kill]
    rw [if_neg (hM.ne z j g1 h3).symm, if_neg (by omega)]
    exact h2
  · intro j o hj
    obtain ⟨g1, x, h1, h2, h3⟩ := hM.obj j o hj
    exact ⟨g1, x, hext _ _ h1, by rw [hk g1.1 (hM.apart hl hi hj h1).symm]; exact h2, h3.mono hext⟩
  · intro j k o p g1 g2 hl1 hl2 hi1 hi2 e
    obtain ⟨k1, _, h1, _⟩ := hM.obj j o hl1
    obtain ⟨k2, _, h2, _⟩ := hM.obj k p hl2
    have e1 := hext _ _ h1
    have e2 := hext _ _ h2
    rw [hi1] at e1; rw [hi2] at e2; cases e1; cases e2
    exact hM.injO j k o p _ _ hl1 hl2 h1 h2 e
  · intro j es h hlo' hj hr hh
    simp only [look_cons] at hj
    by_cases hjj : 64 * M.next + z = j
    · subst hjj; rw [hself] at hr; cases hr; exact ⟨i, cs, g, hlo, hl, hi, rfl⟩
    · rw [if_neg hjj] at hj
      obtain ⟨hik, hj⟩ := hk' j es hj
      obtain ⟨g1, _, _, h1, _⟩ := hM.blk j es hj
      have e1 := hext _ _ h1
      rw [hr] at e1; cases e1
      exact ⟨j, es, _, hlo', hj, h1, rfl⟩
  · intro j o g1 hj hr _
    obtain ⟨k1, _, h1, _⟩ := hM.obj j o hj
    have e1 := hext _ _ h1
    rw [hr] at e1; cases e1
    exact ⟨j, o, _, hj, h1, rfl⟩

theorem glob_kill {r : Nat → Option (Nat × Nat)} {M : Mem} {w : World} (hM : MR r M w) {b : Nat} (z : Nat) (ds : List Value) (hlo : M.lo ≤ b) : ∀ i cs, look M.gl i = some cs → look ((64 * M.next + z, ds) :: kill M.bl b) i = some cs := fun j es hj => by
  obtain ⟨h1, h2, _⟩ := hM.glob j es hj
  obtain ⟨g1, _, _, h3, _⟩ := hM.blk j es h2
  simp only [look_cons, look_kill]
  rw [if_neg (hM.ne z j g1 h3).symm, if_neg (by omega)]
  exact h2

/-! ### A row written anew. -/
theorem row_sound {r : Nat → Option (Nat × Nat)} {M : Mem} {w w' : World} (hM : MR r M w) {i : Nat} {g : Nat × Nat} {cs ds : List Value} {t : TypeId} {cc : Array Value} (hlo : M.lo ≤ i) (hl : look M.bl i = some cs) (hi : r i = some g)
    (hT : 0 < i % 64 → cc.size = g.2)
    (hrel : ∀ (j : Nat) v, ds[j]? = some v → ∃ v', cc[j]? = some v' ∧ VR r v v') (hg : w'.heap[g.1]? = some (.cells cc t (0, 0))) (hk : ∀ k, k ≠ g.1 → w'.heap[k]? = w.heap[k]?) (hs : w'.heap.size = w.heap.size)
    (ho : w'.os = w.os) (ht : w'.tape = w.tape) (hu : w'.output = w.output) :
    MR r { M with bl := upd M.bl i ds } w' ∧ Stp r M w r { M with bl := upd M.bl i ds } w' := by
  have hne : ∀ j es h, look M.bl j = some es → r j = some h → i ≠ j → h.1 ≠ g.1 := fun j es h hj hr hij e =>
    hij (hM.inj i j cs es g h hl hj hi hr e.symm)
  refine ⟨⟨?_, ?_, hM.bound, ?_, ?_, hM.injO⟩, ⟨fun _ _ h => h, rfl, Nat.le_refl _, fun i' cs' hl' _ => by
      simp only [look_upd] at hl'
      split at hl'
      · rename_i e; subst e; exact ⟨cs, hl⟩
      · exact ⟨cs', hl'⟩, ho, ht, hu, by omega, fun k _ hn _ => hk k fun e => hn i cs g hlo hl hi e.symm, ?_, rfl, fun j o g1 hj hr _ => ⟨j, o, g1, hj, hr, rfl⟩⟩⟩
  · intro j es hj
    rw [look_upd] at hj
    split at hj
    · rename_i e; subst e
      rw [hl] at hj; simp at hj; subst hj
      exact ⟨g, t, cc, hi, hg, hT, hrel⟩
    · rename_i e
      obtain ⟨h, t', cc', h1, h2, h3⟩ := hM.blk j es hj
      exact ⟨h, t', cc', h1, by rw [hk h.1 (hne j es h hj h1 e)]; exact h2, h3⟩
  · intro j k es fs h h' h1 h2
    rw [look_upd] at h1 h2
    have g1 : ∃ es', look M.bl j = some es' := by
      split at h1
      · rename_i e; subst e; exact ⟨cs, hl⟩
      · exact ⟨es, h1⟩
    have g2 : ∃ fs', look M.bl k = some fs' := by
      split at h2
      · rename_i e; subst e; exact ⟨cs, hl⟩
      · exact ⟨fs, h2⟩
    obtain ⟨_, g1⟩ := g1
    obtain ⟨_, g2⟩ := g2
    exact hM.inj j k _ _ h h' g1 g2
  · intro j es hj
    obtain ⟨h1, h2, h4⟩ := hM.glob j es hj
    refine ⟨h1, ?_, h4⟩
    simp only [look_upd]
    rw [if_neg (by omega)]
    exact h2
  · intro j o hj
    obtain ⟨g1, x, h1, h2, h3⟩ := hM.obj j o hj
    exact ⟨g1, x, h1, by rw [hk g1.1 (hM.apart hl hi hj h1).symm]; exact h2, h3⟩
  · intro j es h hlo' hj hr hh
    rw [look_upd] at hj
    split at hj
    · rename_i e; subst e; exact ⟨i, cs, h, hlo, hl, hr, rfl⟩
    · exact ⟨j, es, h, hlo', hj, hr, rfl⟩

/-! ### Cells read. -/
theorem cell_sound {r : Nat → Option (Nat × Nat)} {M : Mem} {w : World} (hM : MR r M w) {i : Nat} {g : Nat × Nat} {cs : List Value} (hl : look M.bl i = some cs) (hi : r i = some g) {j : Nat} {v : Value} (hv : cs[j]? = some v) :
    ∃ v', w.cell? ⟨g.1, j, none⟩ = some v' ∧ VR r v v' := by
  obtain ⟨g', t, cc, h1, h2, h2t, h3⟩ := hM.blk i cs hl
  rw [hi] at h1; cases h1
  obtain ⟨v', h4, h5⟩ := h3 j v hv
  exact ⟨v', by simp [World.cell?, h2, h4], h5⟩
theorem frozen_sound {r : Nat → Option (Nat × Nat)} {M : Mem} {w : World} (hM : MR r M w) {i : Nat} {g : Nat × Nat} {cs : List Value} (hl : look M.bl i = some cs) (hi : r i = some g) (j : Nat) : w.frozen? ⟨g.1, j, none⟩ = false := by
  obtain ⟨g', t, cc, h1, h2, h2t, h3⟩ := hM.blk i cs hl
  rw [hi] at h1; cases h1
  simp [World.frozen?, h2]
theorem add_at (g o n : Nat) : (⟨g, o, none⟩ : Addr).add n = ⟨g, o + n, none⟩ := by unfold Addr.add; split <;> simp_all
theorem cells_sound {r : Nat → Option (Nat × Nat)} {M : Mem} {w : World} (hM : MR r M w) {i : Nat} {g : Nat × Nat} {cs : List Value} (hl : look M.bl i = some cs) (hi : r i = some g) {o n : Nat} (hn : o + n ≤ cs.length) :
    ∃ ys : List Value, ys.length = n ∧ (∀ P : Program, (loadCells ⟨g.1, o, none⟩ n).run P w = .ok ys.toArray w) ∧ LR r ((cs.drop o).take n) ys := by
  obtain ⟨g', t, cc, h1, h2, h2t, h3⟩ := hM.blk i cs hl
  rw [hi] at h1; cases h1
  have hlen : ∀ j, j < cs.length → j < cc.size := fun j hj => by
    obtain ⟨v', h4, _⟩ := h3 j cs[j] (List.getElem?_eq_getElem hj)
    exact (Array.getElem?_eq_some_iff.1 h4).1
  have hys : ((cc.toList.drop o).take n).length = n := by
    simp only [List.length_take, List.length_drop, Array.length_toList]
    rcases Nat.eq_zero_or_pos n with h0 | h0
    · subst h0; simp
    · have := hlen (o + n - 1) (by omega); omega
  refine ⟨(cc.toList.drop o).take n, hys, fun P => ?_, ?_⟩
  · have := run_loadCells_list (P := P) w ⟨g.1, o, none⟩ ((cc.toList.drop o).take n) fun j v hv => by
      rw [List.getElem?_take] at hv
      split at hv
      · rw [List.getElem?_drop] at hv
        rw [add_at, cell_of_row w g.1 (o + j) cc t (0, 0) h2]
        simpa using hv
      · cases hv
    rwa [hys] at this
  · refine ⟨by rw [hys]; simp; omega, fun j x y hx hy => ?_⟩
    rw [List.getElem?_take] at hx hy
    split at hx
    · rename_i hj; rw [if_pos hj, List.getElem?_drop] at hy
      rw [List.getElem?_drop] at hx
      obtain ⟨v', h4, h5⟩ := h3 _ _ hx
      have : cc[o + j]? = some y := by simpa using hy
      rw [h4] at this; cases this; exact h5
    · cases hx

theorem oneCell_of {r : Nat → Option (Nat × Nat)} {v v' : Value} (h : VR r v v') (h1 : v.oneCell' = true) : v'.oneCell' = true := by
  cases h <;> first | exact h1 | rfl

/-- A row of cells stored. -/
theorem store_sound {r : Nat → Option (Nat × Nat)} {M : Mem} {w : World} (hM : MR r M w) {i : Nat} {g : Nat × Nat} {cs xs ys : List Value} (hlo : M.lo ≤ i) (hl : look M.bl i = some cs) (hi : r i = some g) {o : Nat} (ho : o + xs.length ≤ cs.length)
    (h1 : xs.all (·.oneCell') = true) (hr : LR r xs ys) :
    ∃ w', (∀ P : Program, (storeCells ⟨g.1, o, none⟩ ys).run P w = .ok () w') ∧ MR r { M with bl := upd M.bl i (cs.take o ++ xs ++ cs.drop (o + xs.length)) } w' ∧ Stp r M w r { M with bl := upd M.bl i (cs.take o ++ xs ++ cs.drop (o + xs.length)) } w' ∧ ∀ k, k ≠ g.1 → w'.heap[k]? = w.heap[k]? := by
  obtain ⟨g', t, cc, h1', h2, h2t, h3⟩ := hM.blk i cs hl
  rw [hi] at h1'; cases h1'
  have hlen : ∀ j, j < cs.length → j < cc.size := fun j hj => by
    obtain ⟨v', h4, _⟩ := h3 j cs[j] (List.getElem?_eq_getElem hj)
    exact (Array.getElem?_eq_some_iff.1 h4).1
  have hcc : cs.length ≤ cc.size := by
    rcases Nat.eq_zero_or_pos cs.length with h0 | h0
    · omega
    · have := hlen (cs.length - 1) (by omega); omega
  have hy1 : ∀ v ∈ ys, v.oneCell' = true := fun v hv => by
    obtain ⟨j, hj⟩ := List.mem_iff_getElem?.1 hv
    have hjl : j < xs.length := by
      rcases Nat.lt_or_ge j ys.length with h | h
      · rw [hr.1]; exact h
      · rw [List.getElem?_eq_none h] at hj; cases hj
    exact oneCell_of (hr.2 j _ _ (List.getElem?_eq_getElem hjl) hj) (List.all_eq_true.1 h1 _ (List.getElem_mem hjl))
  have hyl := hr.1
  refine ⟨_, fun P => run_storeCells_at P g.1 o t ys 0 cc w h2 (by omega) hy1, ?_⟩
  simp only [Nat.add_zero]
  refine (fun hh => ⟨hh.1, hh.2, fun k hk => setRow_other w g.1 k _ hk⟩) (row_sound (t := t) hM hlo hl hi (fun h0 => ?_) ?_ (setRow_heap w g.1 cc _ t _ h2) (fun k hk => setRow_other w g.1 k _ hk) (setRow_size ..) rfl rfl rfl)
  · have := h2t h0
    simp only [List.size_toArray, List.length_append, List.length_take, List.length_drop, Array.length_toList]
    omega
  intro j v hv
  have htk : (List.take o cs).length = o := by simp; omega
  have htk' : (List.take o cc.toList).length = o := by simp; omega
  rw [List.append_assoc] at hv
  simp only [List.getElem?_toArray, List.append_assoc]
  rcases Nat.lt_or_ge j o with hj | hj
  · rw [List.getElem?_append_left (by omega), List.getElem?_take_of_lt hj] at hv
    rw [List.getElem?_append_left (by omega), List.getElem?_take_of_lt hj]
    obtain ⟨v', h4, h5⟩ := h3 j v hv
    exact ⟨v', by simpa using h4, h5⟩
  · rw [List.getElem?_append_right (by omega), htk] at hv
    rw [List.getElem?_append_right (by omega), htk']
    rcases Nat.lt_or_ge (j - o) xs.length with hj' | hj'
    · rw [List.getElem?_append_left hj'] at hv
      rw [List.getElem?_append_left (by omega)]
      exact hr.get hv
    · rw [List.getElem?_append_right hj', List.getElem?_drop] at hv
      rw [List.getElem?_append_right (by omega), List.getElem?_drop]
      obtain ⟨v', h4, h5⟩ := h3 _ v hv
      exact ⟨v', by rw [← hyl]; simpa using h4, h5⟩

/-! ### What only reckons: run by the model's own word. -/
def pureRun {α : Type} (P : Program) : Sem α → Option α
  | .pure a => some a
  | .program k => pureRun P (k P)
  | .mark _ k => pureRun P k
  | _ => none
theorem pureRun_sound {α : Type} {P : Program} {s : Sem α} : ∀ {a : α}, pureRun P s = some a → ∀ w, s.run P w = .ok a w := by
  induction s with
  | pure a => intro b h w; cases h; rfl
  | program k ih => intro b h w; exact ih P h w
  | mark m k ih => intro b h w; exact ih h w
  | _ => intro b h; cases h
end Ev
end Go.Proofs.YtccjmmdppjialaaGreatDoor
