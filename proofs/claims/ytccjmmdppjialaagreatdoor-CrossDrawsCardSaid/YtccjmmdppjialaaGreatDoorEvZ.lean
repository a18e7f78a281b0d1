/- The evaluator, Z: slices of no elements wherever they are, elements of no cells, keys of several cells, texts gone through, rows cleared; all operations together. -/
import Derived.Test.YtccjmmdppjialaaGreatDoorEvY
namespace Go.Proofs.YtccjmmdppjialaaGreatDoor
open Go.RowKit
namespace Ev

theorem VR.of_empty {r : Nat → Option (Nat × Nat)} {q : Option Nat} {v : Value} (h : VR r (.chan q) v) : q = some 0 ∧ ∃ a c, v = .slice (some a) 0 c := by
  cases h with
  | same k _ h => cases k <;> simp [af] at h
  | empty a c => exact ⟨rfl, a, c, rfl⟩

/-! ### A slice of no elements. -/
def sliceE (P : Program) (t : TypeId) (x : Value) (lo hi mx : Option Value) : Option Value := match P.underlying t with
  | some (.slice e) => match sizeA P e with
    | some _ => match mx with
      | none => match x with
        | .slice (some _) len cap => match boundsA len cap lo hi none with
          | some (l, h, _) => bif Nat.beq h l then some (.chan (some 0)) else none
          | none => none
        | .chan (some 0) => match boundsA 0 0 lo hi none with
          | some (l, h, _) => bif Nat.beq h l then some (.chan (some 0)) else none
          | none => none
        | _ => none
      | some _ => none
    | none => none
  | _ => none
theorem sliceE_sound {P : Program} {r : Nat → Option (Nat × Nat)} {v x x' : Value} {lo hi mx lo' hi' mx' : Option Value} (t : TypeId) (hx : VR r x x') (h1 : OR r lo lo') (h2 : OR r hi hi') (h3 : OR r mx mx')
    (h : sliceE P t x lo hi mx = some v) : ∃ v', (∀ w, (Instr.sliceAt t x' lo' hi' mx').run P w = .ok v' w) ∧ VR r v v' := by
  unfold sliceE at h
  split at h
  case h_2 => cases h
  rename_i e hu
  cases hn : sizeA P e with
  | none => rw [hn] at h; cases h
  | some n =>
    rw [hn] at h
    simp only at h
    cases mx with
    | some _ => cases h
    | none =>
      cases mx' with
      | some _ => exact h3.elim
      | none =>
        simp only at h
        have go : ∀ (a : Addr) (len cap cap' l hh m : Nat), x' = .slice (some a) len cap' → cap ≤ cap' → boundsA len cap lo hi none = some (l, hh, m) → (bif Nat.beq hh l then some (Value.chan (some 0)) else none) = some v →
            ∃ v', (∀ w, (Instr.sliceAt t x' lo' hi' none).run P w = .ok v' w) ∧ VR r v v' := by
          intro a len cap cap' l hh m hx' hc hb he
          subst hx'
          obtain ⟨m', hrun, _, _, _⟩ := bounds_sound (P := P) (mx := none) (mx' := none) true hc h1 h2 trivial hb
          cases hq : Nat.beq hh l with
          | false => rw [hq] at he; cases he
          | true =>
            rw [hq] at he; cases he
            have e1 := Nat.eq_of_beq_eq_true hq
            subst e1
            refine ⟨.slice (some (if m' = hh then a else a.add (hh * n))) 0 (m' - hh), fun w => ?_, .empty _ _⟩
            by_cases hm : m' = hh <;> simp [Instr.sliceAt, Instr.slice, underlying, hu, hrun, sizeA_run hn, hm]
        split at h
        case h_3 => cases h
        · obtain ⟨_, g, c', _, hc, _, rfl⟩ := hx.of_slice
          split at h
          case h_2 => cases h
          rename_i hb
          exact go _ _ _ _ _ _ _ rfl hc hb h
        · obtain ⟨_, a, c, rfl⟩ := hx.of_empty
          split at h
          case h_2 => cases h
          rename_i hb
          exact go _ _ _ _ _ _ _ rfl (Nat.zero_le _) hb h
def lenE (P : Program) (t : TypeId) (x : Value) : Option Value := match x with
  | .chan _ => match P.underlying t with
    | some (.slice _) => some (.int .i64 0)
    | _ => none
  | _ => none
theorem lenE_sound {P : Program} {r : Nat → Option (Nat × Nat)} {v x x' : Value} (t ty : TypeId) (hx : VR r x x') (h : lenE P t x = some v) (w : World) : (Builtin.len_ #[t] ty #[x']).run P w = .ok v w ∧ VR r v v := by
  unfold lenE at h
  split at h
  case h_2 => cases h
  obtain ⟨_, a, c, rfl⟩ := hx.of_empty
  split at h
  case h_2 => cases h
  rename_i e hu
  cases h
  exact ⟨by simp [Builtin.len_, underlying, hu, goInt], .of_int r _ _⟩
def appendE (P : Program) (t u : TypeId) (s x : Value) : Option Value := match x with
  | .chan _ => append0A P t u s (.slice none 0 0)
  | _ => none
theorem appendE_sound {P : Program} {r : Nat → Option (Nat × Nat)} {w : World} {v s s' x x' : Value} (t u ty : TypeId) (hs : VR r s s') (hx : VR r x x') (h : appendE P t u s x = some v) :
    (Builtin.append_ #[t, u] ty #[s', x']).run P w = .ok s' w ∧ VR r v s' := by
  unfold appendE at h
  split at h
  case h_2 => cases h
  obtain ⟨_, xa, xc, rfl⟩ := hx.of_empty
  unfold append0A at h
  split at h
  case h_2 => cases h
  rename_i e hu
  cases hn : sizeA P e with
  | none => rw [hn] at h; cases h
  | some n =>
    rw [hn] at h
    simp only at h
    split at h
    case h_2 => cases h
    rename_i e2 hu2
    split at h
    case h_2 => cases h
    rename_i a k c
    cases hb : Nat.ble k c with
    | false => rw [hb] at h; cases h
    | true =>
      rw [hb] at h; cases h
      have hle := Nat.le_of_ble_eq_true hb
      obtain ⟨a', c', rfl, hc⟩ := hs.slice_len
      have hle' : k ≤ c' := Nat.le_trans hle hc
      refine ⟨?_, hs⟩
      cases a' <;> simp [Builtin.append_, run_underlying hu, run_underlying hu2, Builtin.lenOf, Builtin.firstCells, sizeA_run hn, hle', storeCells, loadCells, loadCellsFrom]
def nilE (P : Program) (t : TypeId) (x y : Value) : Bool := match P.underlying t with
  | some (.slice _) => match x, y with
    | .chan _, .slice none _ _ => true
    | .slice none _ _, .chan _ => true
    | _, _ => false
  | _ => false
theorem nilE_sound {P : Program} {t : TypeId} {x y x' y' : Value} {r : Nat → Option (Nat × Nat)} (h : nilE P t x y = true) (hx : VR r x x') (hy : VR r y y') (xo yo : Operand) (w : World) :
    (do eqGuard .eql t xo yo x' y'; binOp .eql t x' y' : Sem Value).run P w = .ok (.bool false) w ∧ (do eqGuard .neq t xo yo x' y'; binOp .neq t x' y' : Sem Value).run P w = .ok (.bool !false) w := by
  unfold nilE at h
  split at h
  case h_2 => cases h
  rename_i e hu
  split at h
  case h_3 => cases h
  · obtain ⟨_, a, c, rfl⟩ := hx.of_empty
    obtain ⟨b', m', d', rfl, hb⟩ := hy.slice_shape
    cases b' with
    | some _ => cases hb
    | none => exact equal_run (fun dd => by simp [Op.equalIn, underlying, hu]) xo yo rfl rfl
  · obtain ⟨_, a, c, rfl⟩ := hy.of_empty
    obtain ⟨b', m', d', rfl, hb⟩ := hx.slice_shape
    cases b' with
    | some _ => cases hb
    | none => exact equal_run (fun dd => by simp [Op.equalIn, underlying, hu]) xo yo rfl rfl

/-! ### Elements of no cells. -/
def loadZ (P : Program) (t : TypeId) (x : Value) : Bool := match x with
  | .pointer (some _) => match aggT P t with
    | some true => match sizeA P t with
      | some 0 => true
      | _ => false
    | _ => false
  | _ => false
theorem loadZ_sound {P : Program} {r : Nat → Option (Nat × Nat)} {w : World} {x x' : Value} (t : TypeId) (hx : VR r x x') (h : loadZ P t x = true) : (Instr.loadAt t x').run P w = .ok (.agg #[]) w := by
  unfold loadZ at h
  split at h
  case h_2 => cases h
  obtain ⟨_, g, _, rfl⟩ := hx.of_ptr
  split at h
  case h_2 => cases h
  rename_i ha
  split at h
  case h_2 => cases h
  rename_i hs
  simp [Instr.loadAt, Instr.sureAddr, loadVar, aggT_run ha, sizeA_run hs, loadCells, loadCellsFrom]
def noCells (l : List (Nat × Value)) : Bool := l.all fun p => nilL' (cellsOf' p.2)
where nilL' : List Value → Bool
  | [] => true
  | _ => false
theorem fill_none {r : Nat → Option (Nat × Nat)} : ∀ {ps ps' : List (Nat × Value)}, PR r ps ps' → noCells ps = true → Instr.fill (fun _ => some (0, 0)) #[] ps' = some #[]
  | [], [], _, _ => rfl
  | [], _ :: _, h, _ => h.elim
  | _ :: _, [], h, _ => h.elim
  | p :: ps, q :: qs, h, hn => by
    obtain ⟨h1, h2, h3⟩ := h
    simp only [noCells, List.all_cons, Bool.and_eq_true] at hn
    have hq : q.2.cells = #[] := by
      have := cellsOf_rel h2
      cases hc : cellsOf' p.2 with
      | cons x xs => rw [hc] at hn; cases hn.1
      | nil =>
        rw [hc] at this
        have := this.1
        simpa using this.symm
    have ih := fill_none h3 (by simpa [noCells] using hn.2)
    have hz : (#[] : Array Value).zipIdx = #[] := rfl
    simp only [Instr.fill, hq, hz]
    simpa using ih
def buildZ (P : Program) (M : Mem) (t : TypeId) (len : Nat) (parts : List (Nat × Value)) : Option (Value × Mem) := match P.underlying t with
  | some (.slice e) => match sizeA P e with
    | some 0 => bif noCells parts then some (.slice (some ⟨64 * M.next, 0, none⟩) len len, M.new []) else none
    | _ => none
  | _ => none
theorem buildZ_sound {P : Program} {r : Nat → Option (Nat × Nat)} {M M' : Mem} {w : World} {v : Value} (hM : MR r M w) (t : TypeId) (len : Nat) {ps : List (Nat × Value)} {ps' : Array (Nat × Value)} (hp : PR r ps ps'.toList) (h : buildZ P M t len ps = some (v, M')) :
    ∃ r' v' w', (Instr.buildSlice t len ps').run P w = .ok v' w' ∧ VR r' v v' ∧ MR r' M' w' ∧ Stp r M w r' M' w' := by
  unfold buildZ at h
  split at h
  case h_2 => cases h
  rename_i e hu
  split at h
  case h_2 => cases h
  rename_i hn
  cases hb : noCells ps with
  | false => rw [hb] at h; cases h
  | true =>
    rw [hb] at h; cases h
    have hf := fill_none hp hb
    obtain ⟨r', w', h5, h6, h7, h8⟩ := new_var_sound (P := P) hM (cs := []) (cc := #[]) e (.nil r)
    exact ⟨r', .slice (some ⟨w.heap.size, 0, none⟩) len len, w', by simp [Instr.buildSlice, underlying, hu, sizeA_run hn, show ∀ f : Nat → Value, (Array.range 0).map f = #[] from fun f => by apply Array.ext' ; simp, hf, h5], .slice _ _ _ _ _ _ h6 (Nat.le_refl _) (.inl rfl), h7, h8⟩

/-- A name more for a place that is known, or for one that isn't. -/
theorem name_sound {r : Nat → Option (Nat × Nat)} {M : Mem} {w : World} (hM : MR r M w) (z : Nat) (hz : z < 64) (g : Nat × Nat) :
    MR (more r (64 * M.next + z) g) { M with next := M.next + 1 } w ∧ Stp r M w (more r (64 * M.next + z) g) { M with next := M.next + 1 } w := by
  have hext := more_ext (hM.ne z) g
  have back : ∀ i h, more r (64 * M.next + z) g i = some h → (∃ h', r i = some h') → r i = some h := fun i h h1 ⟨h', h2⟩ => by
    have := hext _ _ h2
    rw [h1] at this; cases this; exact h2
  refine ⟨⟨fun i cs hl => ?_, fun i j cs ds a b hl hl' hi hj e => ?_, fun i a hi => ?_, fun i cs hl => ?_, fun i o hl => ?_, fun i j o p a b hl hl' hi hj e => ?_⟩,
    ⟨hext, rfl, Nat.le_succ _, fun i cs hl _ => ⟨cs, hl⟩, rfl, rfl, rfl, Nat.le_refl _, fun _ _ _ _ => rfl, fun i cs a hlo hl hi _ => ?_, rfl, fun i o a hl hi _ => ?_⟩⟩
  · obtain ⟨a, t, cc, h1, h2, h3, h4⟩ := hM.blk i cs hl
    exact ⟨a, t, cc, hext _ _ h1, h2, h3, fun j v hv => by obtain ⟨v', q1, q2⟩ := h4 j v hv; exact ⟨v', q1, q2.mono hext⟩⟩
  · obtain ⟨a', _, _, h1, _⟩ := hM.blk i cs hl
    obtain ⟨b', _, _, h2, _⟩ := hM.blk j ds hl'
    exact hM.inj i j cs ds a b hl hl' (back _ _ hi ⟨_, h1⟩) (back _ _ hj ⟨_, h2⟩) e
  · simp only [more] at hi
    split at hi
    · simp only; omega
    · have := hM.bound i a hi; simp only; omega
  · obtain ⟨h1, h2, ⟨s, h3⟩, h4⟩ := hM.glob i cs hl
    exact ⟨h1, h2, ⟨s, hext _ _ h3⟩, h4⟩
  · obtain ⟨a, x, h1, h2, h3⟩ := hM.obj i o hl
    exact ⟨a, x, hext _ _ h1, h2, h3.mono hext⟩
  · obtain ⟨a', _, h1, _⟩ := hM.obj i o hl
    obtain ⟨b', _, h2, _⟩ := hM.obj j p hl'
    exact hM.injO i j o p a b hl hl' (back _ _ hi ⟨_, h1⟩) (back _ _ hj ⟨_, h2⟩) e
  · obtain ⟨a', _, _, h1, _⟩ := hM.blk i cs hl
    exact ⟨i, cs, a, hlo, hl, back _ _ hi ⟨_, h1⟩, rfl⟩
  · obtain ⟨a', _, h1, _⟩ := hM.obj i o hl
    exact ⟨i, o, a, hl, back _ _ hi ⟨_, h1⟩, rfl⟩
def lenZ (x : Value) : Option Nat := match x with
  | .slice _ m _ => some m
  | .chan _ => some 0
  | _ => none
theorem lenZ_sound {r : Nat → Option (Nat × Nat)} {x x' : Value} {m : Nat} (hx : VR r x x') (h : lenZ x = some m) : ∃ a c, x' = .slice a m c := by
  unfold lenZ at h
  split at h
  · cases h
    obtain ⟨a, c, rfl, _⟩ := hx.slice_len
    exact ⟨a, c, rfl⟩
  · cases h
    obtain ⟨_, a, c, rfl⟩ := hx.of_empty
    exact ⟨_, c, rfl⟩
  · cases h
def appendZ (P : Program) (M : Mem) (t : TypeId) (s x : Value) : Option (Value × Mem) := match P.underlying t with
  | some (.slice e) => match P.info? e with
    | some i => match zeroOf P e with
      | some z => bif Nat.beq z.cells.size 0 && (Nat.beq i.size 0 && Nat.beq i.bytes 0) then match lenZ x with
          | some m => match s with
            | .slice none 0 0 => bif Nat.ble 1 m && Nat.ble m 9223372036854775807 then some (.slice (some ⟨64 * M.next + 63, 0, none⟩) m m, { M with next := M.next + 1 }) else none
            | .slice (some a) k c => bif Nat.ble (k + m) 9223372036854775807 && Nat.beq a.off 0 then
                bif Nat.ble (k + m) c then some (.slice (some ⟨a.block, 0, none⟩) (k + m) c, M)
                else some (.slice (some ⟨64 * M.next + 63, 0, none⟩) (k + m) (k + m), { M with next := M.next + 1 })
              else none
            | _ => none
          | none => none
        else none
      | none => none
    | none => none
  | _ => none
theorem zeroCells_none {z : Array Value} (h : z.size = 0) (n : Nat) : Builtin.zeroCells z n = #[] := by
  apply Array.eq_empty_of_size_eq_zero
  simp [Builtin.zeroCells, h]
theorem appendZ_sound {P : Program} {r : Nat → Option (Nat × Nat)} {M M' : Mem} {w : World} {v s s' x x' : Value} (hM : MR r M w) (t ty : TypeId) (hs : VR r s s') (hx : VR r x x') (h : appendZ P M t s x = some (v, M')) :
    ∃ r' v' w', (Builtin.append_ #[t, t] ty #[s', x']).run P w = .ok v' w' ∧ VR r' v v' ∧ MR r' M' w' ∧ Stp r M w r' M' w' := by
  unfold appendZ at h
  split at h
  case h_2 => cases h
  rename_i e hu
  cases hi : P.info? e with
  | none => rw [hi] at h; cases h
  | some i =>
    rw [hi] at h
    simp only at h
    cases hz : zeroOf P e with
    | none => rw [hz] at h; cases h
    | some z =>
      rw [hz] at h
      simp only at h
      have hiz := zeroOf_info hi hz
      obtain ⟨_, hzr⟩ := zeroOf_run hz
      generalize hc : (Nat.beq z.cells.size 0 && (Nat.beq i.size 0 && Nat.beq i.bytes 0)) = d at h
      cases d with
      | false => cases h
      | true =>
        simp only [cond_true] at h
        simp only [Bool.and_eq_true] at hc
        have hzs : z.cells.size = 0 := Nat.eq_of_beq_eq_true hc.1
        have hn : i.size = 0 := Nat.eq_of_beq_eq_true hc.2.1
        have hb : i.bytes = 0 := Nat.eq_of_beq_eq_true hc.2.2
        have hsz : sizeA P e = some 0 := by simp [sizeA, hi, hn]
        cases hlx : lenZ x with
        | none => rw [hlx] at h; cases h
        | some m =>
          rw [hlx] at h
          simp only at h
          obtain ⟨xa, xc, rfl⟩ := lenZ_sound hx hlx
          have hfx : ∀ (k : Nat) (a : Option Addr) (n c : Nat) (w : World), (Builtin.firstCells 0 k (.slice a n c)).run P w = .ok #[] w := fun k a n c w => by
            cases a <;> simp [Builtin.firstCells, loadCells, loadCellsFrom]
          -- a new row
          have grow : ∀ (sa : Option Addr) (k c' : Nat), c' < k + m → k + m ≤ 9223372036854775807 → ∃ w' cap, k + m ≤ cap ∧ w' = w.drew.alloc (.cells #[] e) ∧ (Builtin.append_ #[t, t] ty #[.slice sa k c', .slice xa m xc]).run P w = .ok (.slice (some ⟨w.heap.size, 0, none⟩) (k + m) cap) w' := fun sa k c' hlt hmax => by
            refine ⟨w.drew.alloc (.cells #[] e), grownCap w (k + m) c' e, grownCap_ge w (k + m) c' e, rfl, ?_⟩
            have h1 : ¬ (k + m ≤ c') := by omega
            have h2 : ¬ (9223372036854775807 < ((k : Int) + (m : Int))) := by omega
            simp [Builtin.append_, run_underlying hu, sizeOf, typeInfo, zeroValue, hi, hiz, hn, Builtin.lenOf, h1, h2, hb, Question.forced, hfx, newRow, grownCap, zeroCells_none hzs]
          have hnew : ∀ w' (cap k : Nat), k ≤ cap → w' = w.drew.alloc (.cells #[] e) → ∃ r', VR r' (.slice (some ⟨64 * M.next + 63, 0, none⟩) k k) (.slice (some ⟨w.heap.size, 0, none⟩) k cap) ∧ MR r' { M with next := M.next + 1 } w' ∧ Stp r M w r' { M with next := M.next + 1 } w' := fun w' cap k hk hw => by
            subst hw
            obtain ⟨g1, g2⟩ := new_sound (t := e) (cs := []) (cc := #[]) (w' := w.drew.alloc (.cells #[] e)) hM 63 0 (by omega) (fun _ => rfl) (fun j v hv => by simp at hv) rfl rfl rfl rfl
            have hsub : ∀ i cs, look M.bl i = some cs → look (M.newZ 63 []).bl i = some cs := fun i cs hl => by
              obtain ⟨g', _, _, q, _⟩ := hM.blk i cs hl
              simp only [Mem.newZ, look_cons]
              rw [if_neg (hM.ne 63 i g' q).symm]
              exact hl
            refine ⟨_, .slice _ _ _ _ _ _ (more_self r _ _) hk (.inr (.inr (by omega))), g1.sub hsub (fun i cs hl => (hM.glob i cs hl).2.1), g2.fewer hsub⟩
          split at h
          case h_3 => cases h
          · have := hs.eq (k := 1) rfl
            subst this
            generalize hcc : (Nat.ble 1 m && Nat.ble m 9223372036854775807) = d at h
            cases d with
            | false => cases h
            | true =>
              cases h
              simp only [Bool.and_eq_true] at hcc
              have b1 := Nat.le_of_ble_eq_true hcc.1
              have b2 := Nat.le_of_ble_eq_true hcc.2
              obtain ⟨w', cap, k1, k2, k3⟩ := grow none 0 0 (by omega) (by omega)
              obtain ⟨r', q1, q2, q3⟩ := hnew w' cap m (by omega) k2
              rw [Nat.zero_add] at k3
              exact ⟨r', _, w', k3, q1, q2, q3⟩
          · rename_i a k c
            obtain ⟨_, g, c', hg, hcap, ht, rfl⟩ := hs.of_slice
            generalize hcc : (Nat.ble (k + m) 9223372036854775807 && Nat.beq a.off 0) = d at h
            cases d with
            | false => cases h
            | true =>
              simp only [cond_true] at h
              simp only [Bool.and_eq_true] at hcc
              have b1 := Nat.le_of_ble_eq_true hcc.1
              have b2 : a.off = 0 := Nat.eq_of_beq_eq_true hcc.2
              have inplace : k + m ≤ c' → (Builtin.append_ #[t, t] ty #[.slice (some ⟨g.1, a.off, none⟩) k c', .slice xa m xc]).run P w = .ok (.slice (some ⟨g.1, 0, none⟩) (k + m) c') w := fun hle => by
                simp [Builtin.append_, run_underlying hu, sizeA_run hsz, Builtin.lenOf, hle, hfx, storeCells, b2]
              cases hroom : Nat.ble (k + m) c with
              | true =>
                rw [hroom] at h
                cases h
                have hr := Nat.le_of_ble_eq_true hroom
                rw [b2] at ht
                exact ⟨r, _, w, inplace (by omega), .slice _ _ _ _ _ _ hg hcap ht, hM, .refl _ _ _⟩
              | false =>
                rw [hroom] at h
                cases h
                rcases Nat.lt_or_ge c' (k + m) with q | q
                · obtain ⟨w', cap, k1, k2, k3⟩ := grow (some ⟨g.1, a.off, none⟩) k c' q b1
                  obtain ⟨r', q1, q2, q3⟩ := hnew w' cap (k + m) k1 k2
                  exact ⟨r', _, w', k3, q1, q2, q3⟩
                · obtain ⟨m1, m2⟩ := name_sound hM 63 (by omega) g
                  exact ⟨_, _, w, inplace q, .slice _ _ _ _ _ _ (more_self r _ _) q (.inr (.inr (by omega))), m1, m2⟩

/-! ### Keys of several cells. -/
def askKey (kd : TypeDesc) : Bool := match kd with
  | .struct _ => true
  | .array _ _ => true
  | _ => false
theorem sameNow_ask {kd : TypeDesc} (h : askKey kd = true) (k k' : Value) : Instr.sameNow kd k k' = none := by
  unfold askKey at h
  split at h <;> first | rfl | cases h
def mapAsk (P : Program) (kt : TypeId) (k : Value) : List (Value × Value) → Nat → Option (Option (Nat × Value × Value))
  | [], _ => some none
  | p :: es, i => match pureRun P (Op.equal kt k p.1) with
    | some true => some (some (i, p.1, p.2))
    | some false => mapAsk P kt k es (i + 1)
    | none => none
theorem ask_none {P : Program} {r : Nat → Option (Nat × Nat)} {kt : TypeId} {k : Value} : ∀ {es : List (Value × Value)} {l : List MapEntry} {i : Nat}, EntsR r es l → mapAsk P kt k es i = some none → ∀ w, (Instr.findAsking kt k l i).run P w = .ok none w
  | [], [], _, _, _, w => rfl
  | p :: es, e :: l, i, h, hm, w => by
    simp only [mapAsk] at hm
    split at hm
    · cases hm
    · rename_i hs
      have := pureRun_sound hs w
      simp only [Instr.findAsking, h.1.1, Sem.run_bind, this, Result.andThen_ok, Bool.false_eq_true, if_false]
      exact ask_none h.2 hm w
    · cases hm
theorem ask_some {P : Program} {r : Nat → Option (Nat × Nat)} {kt : TypeId} {k u v : Value} {n : Nat} : ∀ {es : List (Value × Value)} {l : List MapEntry} {i : Nat}, EntsR r es l → mapAsk P kt k es i = some (some (n, u, v)) →
    ∃ e, (∀ w, (Instr.findAsking kt k l i).run P w = .ok (some (n, e.val)) w) ∧ e.key = u ∧ VR r v e.val ∧ i ≤ n ∧ l[n - i]? = some e
  | [], [], _, _, hm => by cases hm
  | p :: es, e :: l, i, h, hm => by
    simp only [mapAsk] at hm
    split at hm
    · rename_i hs
      cases hm
      refine ⟨e, fun w => ?_, h.1.1, h.1.2, Nat.le_refl _, by simp⟩
      have := pureRun_sound hs w
      simp [Instr.findAsking, h.1.1, this]
    · rename_i hs
      obtain ⟨e', h1, h2, h3, h4, h5⟩ := ask_some h.2 hm
      refine ⟨e', fun w => ?_, h2, h3, by omega, ?_⟩
      · have := pureRun_sound hs w
        simp only [Instr.findAsking, h.1.1, Sem.run_bind, this, Result.andThen_ok, Bool.false_eq_true, if_false]
        exact h1 w
      · have : n - i = (n - (i + 1)) + 1 := by omega
        rw [this]
        simpa using h5
    · cases hm
theorem findKey_ask {P : Program} {kt : TypeId} {kd : TypeDesc} (hu : P.underlying kt = some kd) (ha : askKey kd = true) (k : Value) {l : List MapEntry} {q : Option (Nat × Value)} {w : World} (h : (Instr.findAsking kt k l).run P w = .ok q w) : (Instr.findKey kt k l).run P w = .ok q w := by
  cases l with
  | nil =>
    have : q = none := by
      have h' : (.ok none w : Result (Option (Nat × Value))) = .ok q w := h
      cases h'; rfl
    subst this
    simp [Instr.findKey, underlying, hu, Instr.findNow]
  | cons e l =>
    have : Instr.findNow kd k (e :: l) 0 = none := by simp only [Instr.findNow, sameNow_ask ha]
    simp only [Instr.findKey, Sem.run_bind, underlying, run_program, Result.andThen_ok, hu, Sem.run_pure, this]
    exact h
def empE : List (Value × Value) → Bool
  | [] => true
  | _ => false
def lookupG (P : Program) (M : Mem) (t : TypeId) (x k : Value) (ok : Bool) : Option Value := match P.underlying t with
  | some (.map kt et) => match P.underlying kt with
    | some kd => bif askKey kd && af 4 k then match x with
      | .map (some i) => match look M.ob i with
        | some (.map es) => match pureRun P (Instr.checkKey (empE es) 10000 kt k) with
          | some _ => match mapAsk P kt k es 0 with
            | some (some (_, _, v)) => some (okA ok v true)
            | some none => match zeroOf P et with
              | some z => some (okA ok z false)
              | none => none
            | none => none
          | none => none
        | _ => none
      | _ => none
      else none
    | none => none
  | _ => none
theorem lookupG_sound {P : Program} {r : Nat → Option (Nat × Nat)} {M : Mem} {w : World} {v x x' k k' : Value} (hM : MR r M w) (t : TypeId) (ok : Bool) (hx : VR r x x') (hk : VR r k k') (h : lookupG P M t x k ok = some v) :
    ∃ v', (Instr.lookup t x' k' ok).run P w = .ok v' w ∧ VR r v v' := by
  unfold lookupG at h
  split at h
  case h_2 => cases h
  rename_i kt et hu
  cases hku : P.underlying kt with
  | none => rw [hku] at h; cases h
  | some kd =>
    rw [hku] at h
    simp only at h
    generalize hc : (askKey kd && af 4 k) = c at h
    cases c with
    | false => cases h
    | true =>
      simp only [cond_true] at h
      simp only [Bool.and_eq_true] at hc
      have ek : k' = k := hk.eq hc.2
      subst ek
      split at h
      case h_2 => cases h
      rename_i i
      obtain ⟨g, hg, rfl⟩ := hx.of_map
      split at h
      case h_2 => cases h
      rename_i es hl
      obtain ⟨g', o, h1, h2, h3⟩ := hM.obj _ _ hl
      rw [hg] at h1; cases h1
      obtain ⟨ents, clock, rfl, hr⟩ := h3
      split at h
      case h_2 => cases h
      rename_i u hch
      have hemp : ents.isEmpty = empE es := by
        have := hr.length
        cases es with
        | nil => simp only [List.length_nil, List.length_eq_zero_iff, Array.toList_eq_nil_iff] at this; subst this; rfl
        | cons p es =>
          cases he : ents.isEmpty with
          | false => rfl
          | true =>
            rw [Array.isEmpty_iff.1 he] at this
            simp at this
      have hchk : (Instr.checkKey ents.isEmpty 10000 kt k').run P w = .ok () w := by rw [hemp]; exact pureRun_sound hch w
      split at h
      · rename_i n u' f hf
        cases h
        obtain ⟨e, f1, _, f2, _, _⟩ := ask_some hr hf
        have := findKey_ask hku hc.1 k' (f1 w)
        exact ⟨_, by simp [Instr.lookup, underlying, hu, run_getObj_map' h2, hchk, this], okA_rel ok true f2⟩
      · rename_i hf
        have := findKey_ask hku hc.1 k' (ask_none hr hf w)
        cases hz : zeroOf P et with
        | none => rw [hz] at h; cases h
        | some z =>
          rw [hz] at h; cases h
          obtain ⟨ha, hzr⟩ := zeroOf_run hz
          exact ⟨_, by simp [Instr.lookup, underlying, hu, run_getObj_map' h2, hchk, this, hzr], okA_rel ok false (.same 4 _ ha)⟩
      · cases h
def updateG (P : Program) (M : Mem) (t : TypeId) (x k v : Value) : Option Mem := match P.underlying t with
  | some (.map kt _) => match P.underlying kt with
    | some kd => bif askKey kd && af 4 k then match x with
      | .map (some i) => match look M.ob i with
        | some (.map es) => match pureRun P (Instr.checkKey false 10000 kt k) with
          | some _ => match mapAsk P kt k es 0 with
            | some (some (n, u, _)) => bif Instr.sameBits 10000 u k then some { M with ob := upd M.ob i (.map (es.set n (k, v))) } else none
            | some none => some { M with ob := upd M.ob i (.map (es ++ [(k, v)])) }
            | none => none
          | none => none
        | _ => none
      | _ => none
      else none
    | none => none
  | _ => none
theorem updateG_sound {P : Program} {r : Nat → Option (Nat × Nat)} {M M' : Mem} {w : World} {v v' x x' k k' : Value} (hM : MR r M w) (t : TypeId) (hx : VR r x x') (hk : VR r k k') (hv : VR r v v') (h : updateG P M t x k v = some M') :
    ∃ w', (Instr.mapUpdate t x' k' v').run P w = .ok () w' ∧ MR r M' w' ∧ Stp r M w r M' w' := by
  unfold updateG at h
  split at h
  case h_2 => cases h
  rename_i kt et hu
  cases hku : P.underlying kt with
  | none => rw [hku] at h; cases h
  | some kd =>
    rw [hku] at h
    simp only at h
    generalize hc : (askKey kd && af 4 k) = c at h
    cases c with
    | false => cases h
    | true =>
      simp only [cond_true] at h
      simp only [Bool.and_eq_true] at hc
      have ek : k' = k := hk.eq hc.2
      subst ek
      split at h
      case h_2 => cases h
      rename_i i
      obtain ⟨g, hg, rfl⟩ := hx.of_map
      split at h
      case h_2 => cases h
      rename_i es hl
      obtain ⟨g', o, h1, h2, h3⟩ := hM.obj _ _ hl
      rw [hg] at h1; cases h1
      obtain ⟨ents, clock, rfl, hr⟩ := h3
      have hlt := hM.ltO hl hg
      have keep : ∀ (ob : Obj) k, k ≠ g.1 → ({ w with heap := w.heap.setIfInBounds g.1 ob } : World).heap[k]? = w.heap[k]? := fun ob k hne => by
        simp [Array.getElem?_setIfInBounds_ne (Ne.symm hne)]
      have self : ∀ (ob : Obj), ({ w with heap := w.heap.setIfInBounds g.1 ob } : World).heap[g.1]? = some ob := fun ob => by simp [hlt]
      split at h
      case h_2 => cases h
      rename_i u hch
      have hchk := pureRun_sound hch w
      split at h
      · rename_i n u' f hf
        cases hsb : Instr.sameBits 10000 u' k' with
        | false => rw [hsb] at h; cases h
        | true =>
          rw [hsb] at h
          cases h
          obtain ⟨e, f1, f0, f2, _, f4⟩ := ask_some hr hf
          have hfk := findKey_ask hku hc.1 k' (f1 w)
          have f4' : ents[n]? = some e := by simpa using f4
          refine ⟨_, by simp [Instr.mapUpdate, underlying, hu, run_getObj_map' h2, hchk, hfk, f4', f0, Instr.keyThatStays, hsb, run_setObj_map' _ h2]; rfl, ?_⟩
          exact setO_sound hM hl hg (p := .map (es.set n (k', v))) ⟨_, _, rfl, by simpa using hr.modify hv n⟩ (self _) (keep _) (by simp) rfl rfl rfl
      · rename_i hf
        cases h
        have hfk := findKey_ask hku hc.1 k' (ask_none hr hf w)
        refine ⟨_, by simp [Instr.mapUpdate, underlying, hu, run_getObj_map' h2, hchk, hfk, run_setObj_map' _ h2]; rfl, ?_⟩
        exact setO_sound hM hl hg (p := .map (es ++ [(k', v)])) ⟨_, _, rfl, by simpa using hr.push (e := { key := k', val := v', born := clock }) rfl hv⟩ (self _) (keep _) (by simp) rfl rfl rfl
      · cases h

/-! ### Texts gone through. -/
def rangeS (P : Program) (M : Mem) (t : TypeId) (x : Value) : Option (Value × Mem) := match x with
  | .string s => match P.underlying t with
    | some .string => some (.pointer (some ⟨64 * M.next, 0, none⟩), { M with next := M.next + 1, ob := (64 * M.next, .iter s 0) :: M.ob })
    | _ => none
  | _ => none
theorem rangeS_sound {P : Program} {r : Nat → Option (Nat × Nat)} {M M' : Mem} {w : World} {v x x' : Value} (hM : MR r M w) (t : TypeId) (hx : VR r x x') (h : rangeS P M t x = some (v, M')) :
    ∃ r' v' w', (Instr.range t x').run P w = .ok v' w' ∧ VR r' v v' ∧ MR r' M' w' ∧ Stp r M w r' M' w' := by
  unfold rangeS at h
  split at h
  case h_2 => cases h
  rename_i s
  split at h
  case h_2 => cases h
  rename_i hu
  cases h
  have := hx.eq (k := 1) rfl
  subst this
  have key := newO_sound (w' := w.alloc (.stringIter s 0)) hM (o := .iter s 0) (h := .stringIter s 0) rfl rfl rfl rfl rfl
  exact ⟨_, _, _, by simp [Instr.range, underlying, hu], .ptr _ _ _ (more_self r _ _), key.1, key.2⟩
def nextS (M : Mem) (x : Value) : Option (Value × Mem) := match x with
  | .pointer (some a) => bif Nat.beq a.off 0 then match look M.ob a.block with
      | some (.iter s pos) => bif Nat.blt pos s.size then some (.tuple #[.bool true, .int .i64 (.ofNat pos), .int .i32 (.ofNat (Utf8.decode s pos).1)], { M with ob := upd M.ob a.block (.iter s (pos + (Utf8.decode s pos).2)) })
        else some (.tuple #[.bool false], M)
      | _ => none
    else none
  | _ => none
theorem nextS_sound {P : Program} {r : Nat → Option (Nat × Nat)} {M M' : Mem} {w : World} {v x x' : Value} (ty : TypeId) (hM : MR r M w) (hx : VR r x x') (h : nextS M x = some (v, M')) :
    ∃ w', (Instr.next x' true ty).run P w = .ok v w' ∧ VR r v v ∧ MR r M' w' ∧ Stp r M w r M' w' := by
  unfold nextS at h
  split at h
  case h_2 => cases h
  rename_i a
  obtain ⟨_, g, hg, rfl⟩ := hx.of_ptr
  cases hb : Nat.beq a.off 0 with
  | false => rw [hb] at h; cases h
  | true =>
    rw [hb] at h
    simp only [cond_true] at h
    have ho : a.off = 0 := Nat.eq_of_beq_eq_true hb
    split at h
    case h_2 => cases h
    rename_i s pos hl
    obtain ⟨g', o, h1, h2, h3⟩ := hM.obj _ _ hl
    rw [hg] at h1; cases h1
    have h3' : o = .stringIter s pos := h3
    subst h3'
    have hlt := hM.ltO hl hg
    have hget : (getObj g.1).run P w = .ok (.stringIter s pos) w := by simp [getObj, Sem.run, h2]
    have hset : ∀ o, (setObj g.1 o).run P w = .ok () { w with heap := w.heap.setIfInBounds g.1 o } := fun o => by simp [setObj, Sem.run, h2]
    cases hp : Nat.blt pos s.size with
    | true =>
      rw [hp] at h
      cases h
      have hlt' : pos < s.size := Nat.le_of_ble_eq_true hp
      refine ⟨{ w with heap := w.heap.setIfInBounds g.1 (.stringIter s (pos + (Utf8.decode s pos).2)) }, ?_, .same 2 _ rfl, ?_⟩
      · simp [Instr.next, ho, hget, hlt', hset, goInt]
      · exact setO_sound hM hl hg (p := .iter s (pos + (Utf8.decode s pos).2)) (h := .stringIter s (pos + (Utf8.decode s pos).2)) rfl (by simp [hlt]) (fun k hk => by simp [Array.getElem?_setIfInBounds_ne (Ne.symm hk)]) (by simp) rfl rfl rfl
    | false =>
      rw [hp] at h
      cases h
      have hge : ¬ pos < s.size := fun q => by
        have : Nat.blt pos s.size = true := Nat.ble_eq_true_of_le q
        rw [this] at hp; cases hp
      refine ⟨w, ?_, .same 2 _ rfl, hM, .refl _ _ _⟩
      simp [Instr.next, ho, hget, hge]

/-! ### A row cleared. -/
def clearA (P : Program) (M : Mem) (t : TypeId) (x : Value) : Option Mem := match P.underlying t with
  | some (.slice e) => match zeroOf P e with
    | some z => match x with
      | .slice _ 0 _ => some M
      | .chan _ => some M
      | .slice (some a) n _ => match look M.bl a.block with
        | some cs => bif Nat.ble M.lo a.block && (Nat.ble (a.off + (zrow z (n * z.cells.size)).length) cs.length && (zrow z (n * z.cells.size)).all (·.oneCell')) then
            some { M with bl := upd M.bl a.block (cs.take a.off ++ zrow z (n * z.cells.size) ++ cs.drop (a.off + (zrow z (n * z.cells.size)).length)) } else none
        | none => none
      | _ => none
    | none => none
  | _ => none
theorem clear_sound {P : Program} {r : Nat → Option (Nat × Nat)} {M M' : Mem} {w : World} {x x' : Value} (hM : MR r M w) (t ty : TypeId) (hx : VR r x x') (h : clearA P M t x = some M') :
    ∃ w', (Builtin.clear_ #[t] ty #[x']).run P w = .ok (.tuple #[]) w' ∧ MR r M' w' ∧ Stp r M w r M' w' := by
  unfold clearA at h
  split at h
  case h_2 => cases h
  rename_i e hu
  cases hz : zeroOf P e with
  | none => rw [hz] at h; cases h
  | some z =>
    rw [hz] at h
    simp only at h
    obtain ⟨ha, hzr⟩ := zeroOf_run hz
    split at h
    case h_4 => cases h
    · cases h
      obtain ⟨a', c', rfl, _⟩ := hx.slice_len
      refine ⟨w, ?_, hM, .refl _ _ _⟩
      cases a' <;> simp [Builtin.clear_, underlying, hu]
    · cases h
      obtain ⟨_, a, c, rfl⟩ := hx.of_empty
      exact ⟨w, by simp [Builtin.clear_, underlying, hu], hM, .refl _ _ _⟩
    · rename_i a n c hne
      obtain ⟨_, g, c', hg, _, _, rfl⟩ := hx.of_slice
      split at h
      case h_2 => cases h
      rename_i cs hl
      generalize hc : (Nat.ble M.lo a.block && (Nat.ble (a.off + (zrow z (n * z.cells.size)).length) cs.length && (zrow z (n * z.cells.size)).all (·.oneCell'))) = d at h
      cases d with
      | false => cases h
      | true =>
        cases h
        simp only [Bool.and_eq_true] at hc
        obtain ⟨w', h1, h2, h3, _⟩ := store_sound hM (Nat.le_of_ble_eq_true hc.1) hl hg (Nat.le_of_ble_eq_true hc.2.1) hc.2.2 (zrow_rel r ha _)
        refine ⟨w', ?_, h2, h3⟩
        have hn0 : n ≠ 0 := fun e => by subst e; exact hne rfl
        have hzc : (Builtin.zeroCells z.cells n).toList = zrow z (n * z.cells.size) := zrow_eq z _
        obtain ⟨n, rfl⟩ := Nat.exists_eq_succ_of_ne_zero hn0
        simp [Builtin.clear_, underlying, hu, hzr, hzc, h1 P]

/-! ### These together. -/
def opZ (P : Program) (env : Env) (M : Mem) (o : Oper) : Option (Value × Mem) := match o.op with
  | .slice t x lo hi mx => match ev env x with
    | some v => match evo env lo with
      | some l => match evo env hi with
        | some h => match evo env mx with
          | some m => match sliceE P t v l h m with
            | some u => some (u, M)
            | none => none
          | none => none
        | none => none
      | none => none
    | none => none
  | .load t x => match ev env x with
    | some v => bif loadZ P t v then some (.agg #[], M) else none
    | none => none
  | .binOp op t x y _ => match ev env x with
    | some a => match ev env y with
      | some b => bif nilE P t a b then match op with
          | .eql => some (.bool false, M)
          | .neq => some (.bool true, M)
          | _ => none
        else none
      | none => none
    | none => none
  | .buildSlice t len parts => match evp env parts.toList with
    | some q => buildZ P M t len q
    | none => none
  | .lookup t x k ok => match ev env x with
    | some a => match ev env k with
      | some b => match lookupG P M t a b ok with
        | some v => some (v, M)
        | none => none
      | none => none
    | none => none
  | .mapUpdate t m k x => match ev env m with
    | some a => match ev env k with
      | some b => match ev env x with
        | some c => match updateG P M t a b c with
          | some M' => some (Go.undef, M')
          | none => none
        | none => none
      | none => none
    | none => none
  | .insert t m k x => match ev env m with
    | some a => match ev env k with
      | some b => match ev env x with
        | some c => match updateG P M t a b c with
          | some M' => some (Go.undef, M')
          | none => none
        | none => none
      | none => none
    | none => none
  | .range t x => match ev env x with
    | some v => rangeS P M t v
    | none => none
  | .next it s => match ev env it with
    | some v => bif s then nextS M v else none
    | none => none
  | .call c => match c.callee with
    | .builtin .append => match c.args.toList with
      | [d, s] => match c.argTypes.toList with
        | [t, u] => match ev env d with
          | some a => match ev env s with
            | some b => match appendE P t u a b with
              | some v => some (v, M)
              | none => bif Nat.beq t u then appendZ P M t a b else none
            | none => none
          | none => none
        | _ => none
      | _ => none
    | .builtin .len => match c.args.toList with
      | [x] => match c.argTypes.toList with
        | [t] => match ev env x with
          | some a => match lenE P t a with
            | some v => some (v, M)
            | none => none
          | none => none
        | _ => none
      | _ => none
    | .builtin .clear => match c.args.toList with
      | [x] => match c.argTypes.toList with
        | [t] => match ev env x with
          | some a => match clearA P M t a with
            | some M' => some (.tuple #[], M')
            | none => none
          | none => none
        | _ => none
      | _ => none
    | _ => none
  | _ => none
theorem opZ_sound {P : Program} {env : Env} {M M' : Mem} {o : Oper} {v : Value} {r : Nat → Option (Nat × Nat)} {a : Act} {w : World} (h : opZ P env M o = some (v, M')) (he : ER r env a.tmps) (hM : MR r M w) :
    ∃ r' v' w', Out P (execOp a.eval o) w r M v M' r' v' w' := by
  obtain ⟨dst, op, ty, pos, after, guard⟩ := o
  cases op with
  | slice t x lo hi mx =>
    simp only [opZ] at h
    split at h
    case h_2 => cases h
    rename_i h0
    split at h
    case h_2 => cases h
    rename_i h1
    split at h
    case h_2 => cases h
    rename_i h2
    split at h
    case h_2 => cases h
    rename_i h3
    split at h
    case h_2 => cases h
    rename_i h4
    cases h
    obtain ⟨v', h5, h6⟩ := sliceE_sound t (ev_sound he h0) (evo_sound he h1) (evo_sound he h2) (evo_sound he h3) h4
    exact ⟨r, v', w, .still hM (run_value (h5 w)) h6⟩
  | load t x =>
    simp only [opZ] at h
    split at h
    case h_2 => cases h
    rename_i u h0
    cases hz : loadZ P t u with
    | false => rw [hz] at h; cases h
    | true =>
      rw [hz] at h; cases h
      exact ⟨r, _, w, .still hM (run_value (loadZ_sound t (ev_sound he h0) hz)) (.same 2 _ rfl)⟩
  | binOp op t x y yt =>
    simp only [opZ] at h
    split at h
    case h_2 => cases h
    rename_i u h0
    split at h
    case h_2 => cases h
    rename_i z h1
    cases hz : nilE P t u z with
    | false => rw [hz] at h; cases h
    | true =>
      rw [hz] at h
      simp only [cond_true] at h
      obtain ⟨k1, k2⟩ := nilE_sound hz (ev_sound he h0) (ev_sound he h1) x y w
      split at h
      · cases h; exact ⟨r, _, w, .still hM (run_value k1) (.of_bool r _)⟩
      · cases h; exact ⟨r, _, w, .still hM (run_value k2) (.of_bool r _)⟩
      · cases h
  | buildSlice t len parts =>
    simp only [opZ] at h
    split at h
    case h_2 => cases h
    rename_i h0
    obtain ⟨r', v', w', h2, h3, h4, h5⟩ := buildZ_sound (P := P) (ps' := parts.map fun p => (p.1, a.eval p.2)) hM t len (by simpa using evp_sound he h0) h
    exact ⟨r', v', w', .inl (run_value h2), h3, h4, h5⟩
  | lookup t x k ok =>
    simp only [opZ] at h
    split at h
    case h_2 => cases h
    rename_i h0
    split at h
    case h_2 => cases h
    rename_i h1
    split at h
    case h_2 => cases h
    rename_i h2
    cases h
    obtain ⟨v', h3, h4⟩ := lookupG_sound hM t ok (ev_sound he h0) (ev_sound he h1) h2
    exact ⟨r, v', w, .still hM (run_value h3) h4⟩
  | mapUpdate t m k x =>
    simp only [opZ] at h
    split at h
    case h_2 => cases h
    rename_i h0
    split at h
    case h_2 => cases h
    rename_i h1
    split at h
    case h_2 => cases h
    rename_i h2
    split at h
    case h_2 => cases h
    rename_i h3
    cases h
    obtain ⟨w', h4, h5, h6⟩ := updateG_sound hM t (ev_sound he h0) (ev_sound he h1) (ev_sound he h2) h3
    exact ⟨r, Go.undef, w', .inr ⟨run_unit h4, rfl⟩, .undef r, h5, h6⟩
  | insert t m k x =>
    simp only [opZ] at h
    split at h
    case h_2 => cases h
    rename_i h0
    split at h
    case h_2 => cases h
    rename_i h1
    split at h
    case h_2 => cases h
    rename_i h2
    split at h
    case h_2 => cases h
    rename_i h3
    cases h
    obtain ⟨w', h4, h5, h6⟩ := updateG_sound hM t (ev_sound he h0) (ev_sound he h1) (ev_sound he h2) h3
    exact ⟨r, Go.undef, w', .inr ⟨run_unit h4, rfl⟩, .undef r, h5, h6⟩
  | range t x =>
    simp only [opZ] at h
    split at h
    case h_2 => cases h
    rename_i h0
    obtain ⟨r', v', w', h2, h3, h4, h5⟩ := rangeS_sound (P := P) hM t (ev_sound he h0) h
    exact ⟨r', v', w', .inl (run_value h2), h3, h4, h5⟩
  | next it s =>
    simp only [opZ] at h
    split at h
    case h_2 => cases h
    rename_i h0
    cases s with
    | false => cases h
    | true =>
      obtain ⟨w', h2, h3, h4, h5⟩ := nextS_sound (P := P) ty hM (ev_sound he h0) h
      exact ⟨r, v, w', .inl (run_value h2), h3, h4, h5⟩
  | call c =>
    obtain ⟨callee, args, argTypes⟩ := c
    simp only [opZ] at h
    split at h
    case h_4 => cases h
    · split at h
      case h_2 => cases h
      rename_i d s hargs
      split at h
      case h_2 => cases h
      rename_i t u hty
      have ea := toArray_of hargs
      have et := toArray_of hty
      subst ea; subst et
      split at h
      case h_2 => cases h
      rename_i dv h0
      split at h
      case h_2 => cases h
      rename_i sv h1
      split at h
      · rename_i q h2
        cases h
        obtain ⟨h3, h4⟩ := appendE_sound (w := w) t u ty (ev_sound he h0) (ev_sound he h1) h2
        exact ⟨r, _, w, .still hM (by simp [execOp, resolve, invoke, builtin, h3]) h4⟩
      · cases hb : Nat.beq t u with
        | false => rw [hb] at h; cases h
        | true =>
          rw [hb] at h
          have e := Nat.eq_of_beq_eq_true hb
          subst e
          obtain ⟨r', v', w', h2, h3, h4, h5⟩ := appendZ_sound (P := P) hM t ty (ev_sound he h0) (ev_sound he h1) h
          exact ⟨r', v', w', .inl (by simp [execOp, resolve, invoke, builtin, h2]), h3, h4, h5⟩
    · split at h
      case h_2 => cases h
      rename_i x hargs
      split at h
      case h_2 => cases h
      rename_i t hty
      have ea := toArray_of hargs
      have et := toArray_of hty
      subst ea; subst et
      split at h
      case h_2 => cases h
      rename_i xv h0
      split at h
      case h_2 => cases h
      rename_i q h2
      cases h
      obtain ⟨h3, h4⟩ := lenE_sound t ty (ev_sound he h0) h2 w
      exact ⟨r, _, w, .still hM (by simp [execOp, resolve, invoke, builtin, h3]) h4⟩
    · split at h
      case h_2 => cases h
      rename_i x hargs
      split at h
      case h_2 => cases h
      rename_i t hty
      have ea := toArray_of hargs
      have et := toArray_of hty
      subst ea; subst et
      split at h
      case h_2 => cases h
      rename_i xv h0
      split at h
      case h_2 => cases h
      rename_i q h2
      cases h
      obtain ⟨w', h3, h4, h5⟩ := clear_sound (P := P) hM t ty (ev_sound he h0) h2
      exact ⟨r, _, w', .inl (by simp [execOp, resolve, invoke, builtin, h3]), .same 2 _ rfl, h4, h5⟩
  | _ => cases h

/-- Any single operation that makes no call of a Go function. -/
def opT (P : Program) (env : Env) (M : Mem) (o : Oper) : Option (Value × Mem) := match opS P env M o with
  | some q => some q
  | none => match opX P env M o with
    | some q => some q
    | none => opZ P env M o
theorem opT_sound {P : Program} {env : Env} {M M' : Mem} {o : Oper} {v : Value} {r : Nat → Option (Nat × Nat)} {a : Act} {w : World} (h : opT P env M o = some (v, M')) (he : ER r env a.tmps) (hM : MR r M w) :
    ∃ r' v' w', Out P (execOp a.eval o) w r M v M' r' v' w' := by
  unfold opT at h
  cases h1 : opS P env M o with
  | some q => rw [h1] at h; cases h; exact opS_sound h1 he hM
  | none =>
    rw [h1] at h
    simp only at h
    cases h2 : opX P env M o with
    | some q => rw [h2] at h; cases h; exact opX_sound h2 he hM
    | none => rw [h2] at h; exact opZ_sound h he hM

/-- A panic of the text's own. -/
def panicA (env : Env) (o : Oper) : Option Value := match o.op with
  | .panic x => match ev env x with
    | some (.iface t v) => bif af 4 (.iface t v) then some (.iface t v) else none
    | _ => none
  | _ => none
theorem panicA_sound {P : Program} {env : Env} {o : Oper} {v : Value} {r : Nat → Option (Nat × Nat)} {a : Act} (w : World) (h : panicA env o = some v) (he : ER r env a.tmps) : (execOp a.eval o).run P w = .halt (.panic v) w ∧ af 4 v = true := by
  obtain ⟨dst, op, ty, pos, after, guard⟩ := o
  unfold panicA at h
  split at h
  case h_2 => cases h
  rename_i x hop
  simp only at hop
  subst hop
  split at h
  case h_2 => cases h
  rename_i t u h0
  cases ha : af 4 (.iface t u) with
  | false => rw [ha] at h; cases h
  | true =>
    rw [ha] at h; cases h
    refine ⟨?_, ha⟩
    have e := (ev_sound he h0).eq ha
    simp [execOp, e, Instr.panic, goPanic]
end Ev
end Go.Proofs.YtccjmmdppjialaaGreatDoor
