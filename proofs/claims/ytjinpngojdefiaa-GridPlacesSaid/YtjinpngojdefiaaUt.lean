/- Small facts on worlds: cells and marks behind new blocks, and behind calls that leave what was there. -/
import Derived.Test.YtjinpngojdefiaaProg
import Derived.WalkKit
import Derived.Lib.Hide
import Derived.WalkSmall
namespace Go.Proofs.Ytjinpngojdefiaa
open Go.RowKit

theorem kept {w w' : World} {p : Addr} {v : Value} (hb : Below w.heap.size w w') (h : w.cell? p = some v) : w'.cell? p = some v := by
  rw [hb.cell (World.block_lt_of_cell? w _ h)]; exact h
theorem kept_fz {w w' : World} {p : Addr} (hb : Below w.heap.size w w') (hp : p.block < w.heap.size) (h : w.frozen? p = false) : w'.frozen? p = false := by
  rw [hb.frozen hp]; exact h
theorem c_new (w : World) (c : Array Value) (t : TypeId) (k : Nat) : (w.alloc (.cells c t)).cell? ⟨w.heap.size, k, none⟩ = c[k]? := World.cell?_alloc_new w c t k
theorem f_new (w : World) (c : Array Value) (t : TypeId) (k : Nat) : (w.alloc (.cells c t)).frozen? ⟨w.heap.size, k, none⟩ = false := World.frozen?_alloc_new w c t k
theorem below_new (w : World) (o : Obj) : Below w.heap.size w (w.alloc o) := (Below.refl _ _).alloc (Nat.le_refl _) _
theorem c_old {w : World} {p : Addr} {v : Value} (o : Obj) (h : w.cell? p = some v) : (w.alloc o).cell? p = some v := kept (below_new w o) h
theorem f_old {w : World} {p : Addr} (o : Obj) (hp : p.block < w.heap.size) (h : w.frozen? p = false) : (w.alloc o).frozen? p = false := kept_fz (below_new w o) hp h
/-- What was there lies as it lay. -/
def Bl (w w' : World) : Prop := Below w.heap.size w w'
theorem Bl.refl (w : World) : Bl w w := Below.refl _ _
theorem Bl.trans {a b c : World} (h : Bl a b) (h' : Bl b c) : Bl a c := Below.trans h (Below.mono h' (Below.size h))
theorem Bl.new (w : World) (o : Obj) : Bl w (w.alloc o) := below_new w o
theorem Bl.drew {w w' : World} (h : Bl w w') : Bl w w'.drew := Below.drew h
theorem Bl.drewN {w w' : World} (h : Bl w w') (n : Nat) : Bl w (w'.drewN n) := Below.trans h ⟨rfl, rfl, rfl, Nat.le_refl _, fun _ _ => rfl⟩
theorem Bl.cell {w w' : World} {p : Addr} {v : Value} (hb : Bl w w') (h : w.cell? p = some v) : w'.cell? p = some v := kept hb h
end Go.Proofs.Ytjinpngojdefiaa
