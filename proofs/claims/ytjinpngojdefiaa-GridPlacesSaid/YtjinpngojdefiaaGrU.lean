/- Lists of integers in memory: slices that read as a list, rows of the call's own that may be written. -/
import Derived.Test.YtjinpngojdefiaaProg
import Derived.Test.YtjinpngojdefiaaUt
import Derived.Test.YtjinpngojdefiaaGrM
import Derived.WalkKit
import Derived.LoopN
import Derived.Lib.Hide
import Derived.IntWalk
import Derived.BigQuiet
import Derived.Handy
import Derived.Deep.MidRow
import Derived.KernelRfl
import Derived.Deep.QuietTactic
import Derived.Deep.OwnRows
namespace Go.Proofs.Ytjinpngojdefiaa
open Go.RowKit
set_option maxRecDepth 20000
set_option maxHeartbeats 1600000

/-- The address of a slice whose cells read as a list of integers. -/
def Ls (w : World) (k : IntKind) (A : Option Addr) (l : List Int) : Prop := 0 < l.length → ∃ b o, A = some ⟨b, o, none⟩ ∧ ∀ j (h : j < l.length), w.cell? ⟨b, o + j, none⟩ = some (.int k (l[j]'h))
theorem Ls.nil (w : World) (k : IntKind) (A : Option Addr) : Ls w k A [] := fun h => absurd h (by simp)
theorem Ls.keep {w w' : World} {k : IntKind} {A : Option Addr} {l : List Int} (h : Ls w k A l) (hb : Bl w w') : Ls w' k A l := fun hl => by
  obtain ⟨b, o, e, hc⟩ := h hl
  exact ⟨b, o, e, fun j hj => hb.cell (hc j hj)⟩
theorem Ls.at {w : World} {k : IntKind} {b o : Nat} {l : List Int} (h : Ls w k (some ⟨b, o, none⟩) l) (j : Nat) (hj : j < l.length) : w.cell? ⟨b, o + j, none⟩ = some (.int k (l[j]'hj)) := by
  obtain ⟨b', o', e, hc⟩ := h (by omega)
  cases e
  exact hc j hj
theorem Ls.at' {w : World} {k : IntKind} {b o : Nat} {l : List Int} (h : Ls w k (some ⟨b, o, none⟩) l) (j : Nat) {x : Int} (hj : l[j]? = some x) : w.cell? ⟨b, o + j, none⟩ = some (.int k x) := by
  obtain ⟨h1, rfl⟩ := List.getElem?_eq_some_iff.1 hj
  exact h.at j h1
theorem Ls.addr {w : World} {k : IntKind} {A : Option Addr} {l : List Int} (h : Ls w k A l) (j : Nat) (hj : j < l.length) : ∃ b o, A = some ⟨b, o, none⟩ := by
  obtain ⟨b, o, e, _⟩ := h (by omega)
  exact ⟨b, o, e⟩
/-- The naturals of a list as integers. -/
def ofN (s : List Nat) : List Int := s.map fun x : Nat => (x : Int)
theorem ofN_len (s : List Nat) : (ofN s).length = s.length := by simp [ofN]
theorem ofN_at (s : List Nat) (j : Nat) (h : j < s.length) : (ofN s)[j]? = some ((s[j] : Nat) : Int) := by simp [ofN, h]
theorem Ls.atN {w : World} {k : IntKind} {b o : Nat} {s : List Nat} (h : Ls w k (some ⟨b, o, none⟩) (ofN s)) (j : Nat) (hj : j < s.length) : w.cell? ⟨b, o + j, none⟩ = some (.int k ((s[j] : Nat) : Int)) := h.at' j (ofN_at s j hj)

def ints (l : List Int) : List Value := l.map (Value.int .i64)
theorem ints_snoc (l : List Int) (x : Int) : ints l ++ [.int .i64 x] = ints (l ++ [x]) := by simp [ints]
theorem made_ints (n : Nat) : madeCells #[.int .i64 0] n = (ints (List.replicate n 0)).toArray := by
  apply Array.ext'
  apply List.ext_getElem
  · simp [madeCells, ints]
  · intro i h1 h2
    simp [madeCells, ints, Nat.mod_one]
/-- Integers in a block that may be written. -/
structure Rw (w : World) (g : Nat) (l : List Int) : Prop where
  lt : g < w.heap.size
  cell : ∀ j (h : j < l.length), w.cell? ⟨g, j, none⟩ = some (.int .i64 (l[j]'h))
  free : ∀ j, w.frozen? ⟨g, j, none⟩ = false
theorem Rw.keep {w w' : World} {g : Nat} {l : List Int} (h : Rw w g l) (hb : Bl w w') : Rw w' g l :=
  ⟨Nat.lt_of_lt_of_le h.lt (Below.size hb), fun j hj => hb.cell (h.cell j hj), fun j => kept_fz hb (by show g < _; exact h.lt) (h.free j)⟩
theorem Rw.set {w : World} {g : Nat} {l : List Int} (h : Rw w g l) (i : Nat) (x : Int) (hi : i < l.length) : Rw (w.setCell ⟨g, i, none⟩ (.int .i64 x)) g (l.set i x) := by
  refine ⟨by have := h.lt; simpa [World.setCell] using this, fun j hj => ?_, fun j => by rw [World.frozen?_setCell]; exact h.free j⟩
  by_cases e : i = j
  · subst e
    rw [World.cell?_setCell_same' _ _ _ (by rw [h.cell i hi]; rfl), List.getElem_set_self]
  · rw [World.cell?_setCell_other (h := (by intro e'; simp at e' : (⟨g, i, none⟩ : Addr) ≠ ⟨g, j, none⟩)), List.getElem_set_ne e]
    exact h.cell j (by simpa using hj)
theorem Rw.drew {w : World} {g : Nat} {l : List Int} (h : Rw w g l) : Rw w.drew g l := ⟨h.lt, h.cell, h.free⟩
theorem Rw.far {w : World} {g : Nat} {l : List Int} (h : Rw w g l) (g' i : Nat) (v : Value) (hg : g' ≠ g) : Rw (w.setCell ⟨g', i, none⟩ v) g l :=
  ⟨by have := h.lt; simpa [World.setCell] using this, fun j hj => by rw [World.cell?_setCell_other (h := (by intro e'; simp at e' : (⟨g', i, none⟩ : Addr) ≠ ⟨g, j, none⟩))]; exact h.cell j hj, fun j => by rw [World.frozen?_setCell]; exact h.free j⟩
theorem Rw.new (w : World) (l : List Int) (t : TypeId) : Rw (w.alloc (.cells (ints l).toArray t)) w.heap.size l :=
  ⟨by simp, fun j hj => (c_new w _ t j).trans (by simp [ints, hj]), fun j => f_new w _ t j⟩
theorem Rw.ls {w : World} {g : Nat} {l : List Int} (h : Rw w g l) : Ls w .i64 (some ⟨g, 0, none⟩) l := fun _ => ⟨g, 0, rfl, fun j hj => by rw [Nat.zero_add]; exact h.cell j hj⟩
theorem info_int : (Try.prog.info? 3).map (fun i => (i.zero, i.size, i.bytes)) = some (some (.int .i64 0), 1, 8) := by kernel_rfl
theorem make_ints (n : Nat) (hn : n ≤ 1000000) (w : World) : (Instr.makeSlice 22 (.int .i64 (n : Int)) (.int .i64 (n : Int))).run Try.prog w = .ok (.slice (some ⟨w.heap.size, 0, none⟩) n n) (w.alloc (.cells (ints (List.replicate n 0)).toArray 3)) := by
  rw [← made_ints]
  exact run_make_row' 22 3 (.int .i64 0) 8 Try.underlying22 info_int rfl .i64 .i64 n (by omega) (by omega) w
end Go.Proofs.Ytjinpngojdefiaa
