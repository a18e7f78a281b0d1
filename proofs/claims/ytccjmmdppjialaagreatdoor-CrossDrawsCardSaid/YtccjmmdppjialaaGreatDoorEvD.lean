/- The evaluator, D: addresses, slices, parts, rows built and made, append. -/
import Derived.Test.YtccjmmdppjialaaGreatDoorEvC
namespace Go.Proofs.YtccjmmdppjialaaGreatDoor
open Go.RowKit
namespace Ev

def fieldAddrA (P : Program) (s : TypeId) (x : Value) (f : Nat) : Option Value := match x with
  | .pointer (some a) => match P.underlying s with
    | some (.struct fields) => match fields[f]? with
      | some fl => match sizeA P fl.type with
        | some (_ + 1) => some (.pointer (some ⟨a.block, a.off + fl.offset, none⟩))
        | _ => none
      | none => none
    | _ => none
  | _ => none
theorem fieldAddr_sound {P : Program} {r : Nat → Option (Nat × Nat)} {v x x' : Value} (s : TypeId) (f : Nat) (hx : VR r x x') (h : fieldAddrA P s x f = some v) :
    ∃ v', (∀ w, (Instr.fieldAt s x' f).run P w = .ok v' w) ∧ VR r v v' := by
  unfold fieldAddrA at h
  split at h
  case h_2 => cases h
  rename_i a
  obtain ⟨hs, g, hg, rfl⟩ := hx.of_ptr
  split at h
  case h_2 => cases h
  rename_i fields hu
  split at h
  case h_2 => cases h
  rename_i fl hf
  split at h
  case h_2 => cases h
  rename_i n hn
  cases h
  refine ⟨.pointer (some ⟨g.1, a.off + fl.offset, none⟩), fun w => ?_, .ptr _ _ _ hg⟩
  simp [Instr.fieldAt, underlying, hu, hf, Instr.sureAddr, fieldPlace, sizeA_run hn, add_at]

def indexAddrA (P : Program) (t : TypeId) (x ix : Value) : Option Value := match ix with
  | .int _ i => match P.underlying t with
    | some (.array len e) => match x with
      | .pointer (some a) => match sizeA P e with
        | some n => bif decide (0 ≤ i) && decide (i < len) then some (.pointer (some ⟨a.block, a.off + i.toNat * n, none⟩)) else none
        | none => none
      | _ => none
    | some (.slice e) => match x with
      | .slice (some a) len _ => match sizeA P e with
        | some n => bif decide (0 ≤ i) && decide (i < len) then some (.pointer (some ⟨a.block, a.off + i.toNat * n, none⟩)) else none
        | none => none
      | _ => none
    | _ => none
  | _ => none
theorem indexAddr_sound {P : Program} {r : Nat → Option (Nat × Nat)} {v x x' ix ix' : Value} (t : TypeId) (hx : VR r x x') (hi : VR r ix ix') (h : indexAddrA P t x ix = some v) :
    ∃ v', (∀ w, (Instr.indexAt t x' ix').run P w = .ok v' w) ∧ VR r v v' := by
  unfold indexAddrA at h
  split at h
  case h_2 => cases h
  rename_i k i
  have := hi.int; subst this
  split at h
  case h_3 => cases h
  · rename_i len e hu
    split at h
    case h_2 => cases h
    rename_i a
    obtain ⟨hs, g, hg, rfl⟩ := hx.of_ptr
    split at h
    case h_2 => cases h
    rename_i n hn
    generalize hc : (decide (0 ≤ i) && decide (i < (len : Int))) = c at h
    cases c with
    | false => cases h
    | true =>
      cases h
      simp only [Bool.and_eq_true, decide_eq_true_eq] at hc
      refine ⟨.pointer (some ⟨g.1, a.off + i.toNat * n, none⟩), fun w => ?_, .ptr _ _ _ hg⟩
      simp [Instr.indexAt, asIntOf, underlying, hu, Instr.sureAddr, hc.1, hc.2, sizeA_run hn, add_at]
  · rename_i e hu
    split at h
    case h_2 => cases h
    rename_i a len cap
    obtain ⟨hs, g, c', hg, hcap, ht, rfl⟩ := hx.of_slice
    split at h
    case h_2 => cases h
    rename_i n hn
    generalize hc : (decide (0 ≤ i) && decide (i < (len : Int))) = c at h
    cases c with
    | false => cases h
    | true =>
      cases h
      simp only [Bool.and_eq_true, decide_eq_true_eq] at hc
      refine ⟨.pointer (some ⟨g.1, a.off + i.toNat * n, none⟩), fun w => ?_, .ptr _ _ _ hg⟩
      simp [Instr.indexAt, asIntOf, underlying, hu, hc.1, hc.2, sizeA_run hn, add_at]

def partA (P : Program) (t : TypeId) (cs : List Value) (o : Nat) : Option Value := match aggT P t with
  | some true => match sizeA P t with
    | some n => some (.agg ((cs.drop o).take n).toArray)
    | none => none
  | some false => cs[o]?
  | none => none
theorem part_sound {P : Program} {r : Nat → Option (Nat × Nat)} {v : Value} (t : TypeId) {cs : List Value} {cc : Array Value} (o : Nat) (hx : LR r cs cc.toList) (h : partA P t cs o = some v) :
    ∃ v', (∀ w, (part t cc o).run P w = .ok v' w) ∧ VR r v v' := by
  unfold partA at h
  cases hb : aggT P t with
  | none => rw [hb] at h; cases h
  | some b =>
    rw [hb] at h
    cases b with
    | false =>
      obtain ⟨y, h1, h2⟩ := hx.get h
      have h1' : cc[o]? = some y := by simpa using h1
      exact ⟨y, fun w => by simp [part, aggT_run hb, h1'], h2⟩
    | true =>
      cases hn : sizeA P t with
      | none => rw [hn] at h; cases h
      | some n =>
        rw [hn] at h; cases h
        refine ⟨.agg ((cc.toList.drop o).take n).toArray, fun w => ?_, .agg' ((hx.drop o).take n)⟩
        simp only [part, Sem.run_bind, aggT_run hb, Result.andThen_ok, if_true, sizeA_run hn, Sem.run_pure, Result.ok.injEq, and_true, Value.agg.injEq]
        apply Array.ext'
        simp only [Array.toList_extract, List.extract_eq_take_drop, Nat.add_sub_cancel_left]

def fieldA (P : Program) (t : TypeId) (x : Value) (f : Nat) : Option Value := match x with
  | .agg cs => match P.underlying t with
    | some (.struct fields) => match fields[f]? with
      | some fl => partA P fl.type cs.toList fl.offset
      | none => none
    | _ => none
  | _ => none
theorem field_sound {P : Program} {r : Nat → Option (Nat × Nat)} {v x x' : Value} (t : TypeId) (f : Nat) (hx : VR r x x') (h : fieldA P t x f = some v) :
    ∃ v', (∀ w, (Instr.field t x' f).run P w = .ok v' w) ∧ VR r v v' := by
  unfold fieldA at h
  split at h
  case h_2 => cases h
  rename_i cs
  obtain ⟨ys, rfl, hl⟩ := hx.of_agg
  split at h
  case h_2 => cases h
  rename_i fields hu
  split at h
  case h_2 => cases h
  rename_i fl hf
  obtain ⟨v', h1, h2⟩ := part_sound fl.type fl.offset hl h
  exact ⟨v', fun w => by simp [Instr.field, underlying, hu, hf, asAgg, h1], h2⟩

def extractA (x : Value) (i : Nat) : Option Value := match x with
  | .tuple vs => vs.toList[i]?
  | _ => none
theorem extract_sound {P : Program} {r : Nat → Option (Nat × Nat)} {v x x' : Value} (i : Nat) (hx : VR r x x') (h : extractA x i = some v) :
    ∃ v', (∀ w, (Instr.extract x' i).run P w = .ok v' w) ∧ VR r v v' := by
  unfold extractA at h
  split at h
  case h_2 => cases h
  obtain ⟨ys, rfl, hl⟩ := hx.of_tuple
  obtain ⟨y, h1, h2⟩ := hl.get h
  have h1' : ys[i]? = some y := by simpa using h1
  exact ⟨y, fun w => by simp [Instr.extract, h1'], h2⟩

/-! ### Rows of operands. -/
def evs (env : Env) : List Operand → Option (List Value)
  | [] => some []
  | x :: r => match ev env x with
    | some v => match evs env r with
      | some vs => some (v :: vs)
      | none => none
    | none => none
theorem evs_sound {r : Nat → Option (Nat × Nat)} {env : Env} {a : Act} (h : ER r env a.tmps) : ∀ {xs : List Operand} {vs : List Value}, evs env xs = some vs → LR r vs (xs.map a.eval)
  | [], vs, hv => by cases hv; exact .nil r
  | x :: xs, vs, hv => by
    simp only [evs] at hv
    cases h1 : ev env x with
    | none => rw [h1] at hv; cases hv
    | some v =>
      rw [h1] at hv
      cases h2 : evs env xs with
      | none => rw [h2] at hv; cases hv
      | some us => rw [h2] at hv; cases hv; exact .cons (ev_sound h h1) (evs_sound h h2)

/-! ### Slices cut. -/
def boundA (x : Option Value) (dflt top : Nat) : Option Nat := match x with
  | none => some dflt
  | some (.int _ i) => bif decide (0 ≤ i) && decide (i ≤ (top : Int)) then some i.toNat else none
  | some _ => none
theorem bound_run {P : Program} {w : World} {k : IntKind} {i : Int} {top : Nat} (code : BoundsCode) (h0 : 0 ≤ i) (h1 : i ≤ top) : (Instr.sliceBound (.int k i) top code).run P w = .ok i.toNat w := by
  simp [Instr.sliceBound, asIntOf, h0, h1]

/-- Low, high, top of a slice expression: the top is at least what it is said to be where it is not given. -/
def boundsA (len cap : Nat) (lo hi mx : Option Value) : Option (Nat × Nat × Nat) := match boundA mx cap cap with
  | some m => match boundA hi len m with
    | some h => match boundA lo 0 h with
      | some l => bif mx.isNone || hi.isSome then some (l, h, m) else none
      | none => none
    | none => none
  | none => none
def OR (r : Nat → Option (Nat × Nat)) (x y : Option Value) : Prop := match x, y with
  | none, none => True
  | some u, some v => VR r u v
  | _, _ => False
theorem bounds_sound {P : Program} {r : Nat → Option (Nat × Nat)} (sl : Bool) {len cap cap' l h m : Nat} {lo hi mx lo' hi' mx' : Option Value} (hc : cap ≤ cap') (h1 : OR r lo lo') (h2 : OR r hi hi') (h3 : OR r mx mx')
    (hh : boundsA len cap lo hi mx = some (l, h, m)) : ∃ m', (∀ w, (Instr.sliceBounds sl len cap' lo' hi' mx').run P w = .ok (l, h, m') w) ∧ m ≤ m' ∧ (mx.isSome = true → m' = m) ∧ (mx.isSome = false → m' = cap' ∧ m = cap) := by
  unfold boundsA at hh
  cases hm : boundA mx cap cap with
  | none => rw [hm] at hh; cases hh
  | some m0 =>
    rw [hm] at hh
    simp only at hh
    cases hb : boundA hi len m0 with
    | none => rw [hb] at hh; cases hh
    | some h0 =>
      rw [hb] at hh
      simp only at hh
      cases hl : boundA lo 0 h0 with
      | none => rw [hl] at hh; cases hh
      | some l0 =>
        rw [hl] at hh
        simp only at hh
        generalize hcc : (mx.isNone || hi.isSome) = c at hh
        cases c with
        | false => cases hh
        | true =>
          cases hh
          have lowrun : (lo' = none ∧ l = 0) ∨ ∃ u, lo' = some u ∧ ∀ (code : BoundsCode) (w : World), (Instr.sliceBound u h code).run P w = .ok l w := by
            cases lo with
            | none => cases lo' with
              | none => simp [boundA] at hl; subst hl; exact .inl ⟨rfl, rfl⟩
              | some _ => exact h1.elim
            | some u => cases lo' with
              | none => exact h1.elim
              | some u' =>
                cases u <;> simp only [boundA] at hl <;> try cases hl
                rename_i k i
                have := VR.int h1; subst this
                generalize hd : (decide (0 ≤ i) && decide (i ≤ (h : Int))) = d at hl
                cases d with
                | false => cases hl
                | true => cases hl; simp only [Bool.and_eq_true, decide_eq_true_eq] at hd; exact .inr ⟨_, rfl, fun code w => bound_run code hd.1 hd.2⟩
          cases mx with
          | none =>
            cases mx' with
            | some _ => exact h3.elim
            | none =>
              simp only [boundA, Option.some.injEq] at hm
              subst hm
              refine ⟨cap', fun w => ?_, hc, by simp, fun _ => ⟨rfl, rfl⟩⟩
              cases hi with
              | none => cases hi' with
                | some _ => exact h2.elim
                | none =>
                  simp only [boundA, Option.some.injEq] at hb
                  subst hb
                  rcases lowrun with ⟨rfl, rfl⟩ | ⟨u, rfl, hrun⟩
                  · simp [Instr.sliceBounds]
                  · simp [Instr.sliceBounds, hrun]
              | some u => cases hi' with
                | none => exact h2.elim
                | some u' =>
                  cases u <;> simp only [boundA] at hb <;> try cases hb
                  rename_i k i
                  have := VR.int h2; subst this
                  generalize hd : (decide (0 ≤ i) && decide (i ≤ (cap : Int))) = d at hb
                  cases d with
                  | false => cases hb
                  | true =>
                    cases hb
                    simp only [Bool.and_eq_true, decide_eq_true_eq] at hd
                    have hb1 := bound_run (P := P) (w := w) (k := k) (if sl then .sliceAcap else .sliceAlen) hd.1 (show i ≤ (cap' : Int) by omega)
                    rcases lowrun with ⟨rfl, rfl⟩ | ⟨u, rfl, hrun⟩
                    · simp [Instr.sliceBounds, hb1]
                    · simp [Instr.sliceBounds, hb1, hrun]
          | some u =>
            cases mx' with
            | none => exact h3.elim
            | some u' =>
              cases u <;> simp only [boundA] at hm <;> try cases hm
              rename_i k i
              have := VR.int h3; subst this
              generalize hd : (decide (0 ≤ i) && decide (i ≤ (cap : Int))) = d at hm
              cases d with
              | false => cases hm
              | true =>
                cases hm
                simp only [Bool.and_eq_true, decide_eq_true_eq] at hd
                refine ⟨i.toNat, fun w => ?_, Nat.le_refl _, fun _ => rfl, by simp⟩
                cases hi with
                | none => simp at hcc
                | some q => cases hi' with
                  | none => exact h2.elim
                  | some q' =>
                    cases q <;> simp only [boundA] at hb <;> try cases hb
                    rename_i k2 i2
                    have := VR.int h2; subst this
                    generalize hd2 : (decide (0 ≤ i2) && decide (i2 ≤ ((i.toNat : Nat) : Int))) = d2 at hb
                    cases d2 with
                    | false => cases hb
                    | true =>
                      cases hb
                      simp only [Bool.and_eq_true, decide_eq_true_eq] at hd2
                      have hb1 := bound_run (P := P) (w := w) (k := k) (if sl then .slice3Acap else .slice3Alen) hd.1 (show i ≤ (cap' : Int) by omega)
                      have hb2 := bound_run (P := P) (w := w) (k := k2) .slice3B hd2.1 hd2.2
                      rcases lowrun with ⟨rfl, rfl⟩ | ⟨u, rfl, hrun⟩
                      · simp [Instr.sliceBounds, hb1, hb2]
                      · simp [Instr.sliceBounds, hb1, hb2, hrun]

def sliceA (P : Program) (t : TypeId) (x : Value) (lo hi mx : Option Value) : Option Value := match P.underlying t with
  | some (.slice e) => match x with
    | .slice (some a) len cap => match boundsA len cap lo hi mx with
      | some (l, h, m) => match sizeA P e with
        | some n => bif Nat.ble l m && ((Nat.beq l 0 || (!(Nat.beq m l) || mx.isSome)) && (Nat.beq l 0 || (Nat.beq (a.block % 64) 0 || (Nat.beq (a.block % 64) n || Nat.beq (a.block % 64) 63)))) then some (.slice (some (bif Nat.beq m l then ⟨a.block, a.off, none⟩ else ⟨a.block, a.off + l * n, none⟩)) (h - l) (m - l)) else none
        | none => none
      | none => none
    | _ => none
  | some (.array len e) => match x with
    | .pointer (some a) => match boundsA len len lo hi mx with
      | some (l, h, m) => match sizeA P e with
        | some n => some (.slice (some (bif Nat.beq m l then ⟨a.block, a.off, none⟩ else ⟨a.block, a.off + l * n, none⟩)) (h - l) (m - l))
        | none => none
      | none => none
    | _ => none
  | _ => none
theorem slack {c c' o z T l n : Nat} (h : c' = c ∨ (0 < z ∧ o + c' * z = T) ∨ z = 63) (hl : l ≤ c') (hz : l = 0 ∨ z = 0 ∨ z = n ∨ z = 63) : c' - l = c - l ∨ (0 < z ∧ (o + l * n) + (c' - l) * z = T) ∨ z = 63 := by
  rcases h with h | ⟨h0, h⟩ | h
  · exact .inl (by rw [h])
  · rcases hz with hz | hz | hz | hz
    · refine .inr (.inl ⟨h0, ?_⟩)
      subst hz; simpa using h
    · omega
    · refine .inr (.inl ⟨h0, ?_⟩)
      subst hz
      have : (c' - l) * z + l * z = c' * z := by rw [← Nat.add_mul, Nat.sub_add_cancel hl]
      omega
    · exact .inr (.inr hz)
  · exact .inr (.inr h)
theorem slice_sound {P : Program} {r : Nat → Option (Nat × Nat)} {v x x' : Value} {lo hi mx lo' hi' mx' : Option Value} (t : TypeId) (hx : VR r x x') (h1 : OR r lo lo') (h2 : OR r hi hi') (h3 : OR r mx mx')
    (h : sliceA P t x lo hi mx = some v) : ∃ v', (∀ w, (Instr.sliceAt t x' lo' hi' mx').run P w = .ok v' w) ∧ VR r v v' := by
  unfold sliceA at h
  split at h
  case h_3 => cases h
  · rename_i e hu
    split at h
    case h_2 => cases h
    rename_i a len cap
    obtain ⟨hs, g, c', hg, hcap, ht, rfl⟩ := hx.of_slice
    split at h
    case h_2 => cases h
    rename_i l hh m hb
    split at h
    case h_2 => cases h
    rename_i n hn
    obtain ⟨m', hrun, hm, hm1, hm2⟩ := bounds_sound (P := P) true hcap h1 h2 h3 hb
    generalize hc : (Nat.ble l m && ((Nat.beq l 0 || (!(Nat.beq m l) || mx.isSome)) && (Nat.beq l 0 || (Nat.beq (a.block % 64) 0 || (Nat.beq (a.block % 64) n || Nat.beq (a.block % 64) 63))))) = c at h
    cases c with
    | false => cases h
    | true =>
      cases h
      simp only [Bool.and_eq_true] at hc
      obtain ⟨hlm0, hc, hct⟩ := hc
      have hlm := Nat.le_of_ble_eq_true hlm0
      by_cases hml : m = l
      · subst hml
        have hbb : Nat.beq m m = true := by simp
        simp only [hbb, cond_true]
        have hsl : m' - m = m - m ∨ (0 < a.block % 64 ∧ a.off + (m' - m) * (a.block % 64) = g.2) ∨ a.block % 64 = 63 := by
          cases hq : mx.isSome with
          | true => exact .inl (by rw [hm1 hq])
          | false =>
            obtain ⟨e1, e2⟩ := hm2 hq
            have hl0 : m = 0 := by rw [hbb, hq] at hc; simpa using hc
            rw [← e1, ← e2] at ht
            have := slack (l := m) (n := 0) ht hm (.inl hl0)
            simpa using this
        refine ⟨.slice (some ⟨g.1, a.off, none⟩) (hh - m) (m' - m), fun w => ?_, .slice _ _ _ _ _ _ hg (by omega) hsl⟩
        simp only [Instr.sliceAt, Instr.slice, Sem.run_bind, underlying, run_program, Result.andThen_ok, hu, Sem.run_pure, hrun, sizeA_run hn]
        by_cases hmm : m' = m
        · simp [hmm]
        · have hl0 : m = 0 := by
            cases hq : mx.isSome with
            | true => exact absurd (hm1 hq) hmm
            | false => rw [hbb, hq] at hc; simpa using hc
          subst hl0
          simp [hmm, add_at]
      · have hbb : Nat.beq m l = false := beq_ne hml
        simp only [hbb, cond_false]
        have hmm : ¬ m' = l ∨ m' = l := (Classical.em _).symm
        rcases hmm with hmm | hmm
        · have hsl : m' - l = m - l ∨ (0 < a.block % 64 ∧ (a.off + l * n) + (m' - l) * (a.block % 64) = g.2) ∨ a.block % 64 = 63 := by
            cases hq : mx.isSome with
            | true => exact .inl (by rw [hm1 hq])
            | false =>
              obtain ⟨e1, e2⟩ := hm2 hq
              rw [← e1, ← e2] at ht
              refine slack ht (by omega) ?_
              simp only [Bool.or_eq_true] at hct
              rcases hct with q | q | q | q
              · exact .inl (Nat.eq_of_beq_eq_true q)
              · exact .inr (.inl (Nat.eq_of_beq_eq_true q))
              · exact .inr (.inr (.inl (Nat.eq_of_beq_eq_true q)))
              · exact .inr (.inr (.inr (Nat.eq_of_beq_eq_true q)))
          refine ⟨.slice (some ⟨g.1, a.off + l * n, none⟩) (hh - l) (m' - l), fun w => ?_, .slice _ _ _ _ _ _ hg (by omega) hsl⟩
          simp [Instr.sliceAt, Instr.slice, underlying, hu, hrun, sizeA_run hn, hmm, add_at]
        · exfalso
          omega
  · rename_i len e hu
    split at h
    case h_2 => cases h
    rename_i a
    obtain ⟨hs, g, hg, rfl⟩ := hx.of_ptr
    split at h
    case h_2 => cases h
    rename_i l hh m hb
    split at h
    case h_2 => cases h
    rename_i n hn
    cases h
    obtain ⟨m', hrun, hm, hm1, hm2⟩ := bounds_sound (P := P) false (Nat.le_refl len) h1 h2 h3 hb
    have hmm : m' = m := by
      cases hq : mx.isSome with
      | true => exact hm1 hq
      | false => exact (hm2 hq).1.trans (hm2 hq).2.symm
    subst hmm
    by_cases hml : m' = l
    · subst hml
      have hbb : Nat.beq m' m' = true := by simp
      simp only [hbb, cond_true]
      refine ⟨.slice (some ⟨g.1, a.off, none⟩) (hh - m') (m' - m'), fun w => ?_, .slice _ _ _ _ _ _ hg (Nat.le_refl _) (.inl rfl)⟩
      simp [Instr.sliceAt, underlying, hu, Instr.sureAddr, hrun, sizeA_run hn]
    · have hbb : Nat.beq m' l = false := beq_ne hml
      simp only [hbb, cond_false]
      refine ⟨.slice (some ⟨g.1, a.off + l * n, none⟩) (hh - l) (m' - l), fun w => ?_, .slice _ _ _ _ _ _ hg (Nat.le_refl _) (.inl rfl)⟩
      simp [Instr.sliceAt, underlying, hu, Instr.sureAddr, hrun, sizeA_run hn, hml, add_at]
end Ev
end Go.Proofs.YtccjmmdppjialaaGreatDoor
