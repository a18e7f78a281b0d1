/- What a listed table of whole numbers gives: the cells of its block. No program is named here. -/
import Derived.OpenShut
import Derived.ChangeArms
import Derived.MakeChecks
import Derived.FnData
namespace Go.Proofs.YtcphjhciiakhnaaGreatDoor
open Go.RowKit
namespace Ev
theorem cells_of_table {H : Type} {enc : TypeId × Value → H} {P : Program} {W : World} {base : Nat} {spare : Nat → Bool} {held : Bool} {fuel : Nat} {t e : TypeId} {n : Nat} {k : IntKind} {cs : List Value} {ms : List Int} {p : List MemPlace}
    (ht : P.underlying t = some (.array n e)) (he : P.underlying e = some (.int k)) (hct : P.cellsOf t = n) (hce : P.cellsOf e = 1)
    (h : DataW.trod enc P W base spare held fuel t cs = some (.agg (ms.map fun m => .lit (.int k m)), p)) : cs = ms.map (Value.int k) := by
  obtain ⟨xs, m, rfl, hx, hl, hn, hel⟩ := DataW.trod_array ht h
  simp only [Prod.mk.injEq, DataW.agg.injEq] at hx
  have hms : ms.length = n := by
    rw [← hn]
    have := congrArg List.length hx.1
    simpa using this
  apply List.ext_getElem?
  intro i
  rcases Nat.lt_or_ge i n with hi | hi
  · have h1 := hel i hi
    rw [hce, Nat.mul_one, List.getElem?_eq_getElem (by omega : i < xs.length)] at h1
    obtain ⟨q, e1, e2, _⟩ := DataW.trod_int he h1
    have h2 : (ms.map fun m => (DataW.lit (.int k m) : DataW H))[i]? = (xs.map (·.1))[i]? := by rw [hx.1]
    rw [List.getElem?_map, List.getElem?_map, List.getElem?_eq_getElem (by omega : i < xs.length), List.getElem?_eq_getElem (by omega : i < ms.length), e2] at h2
    simp only [Option.map_some, Option.some.injEq, DataW.lit.injEq, Lit.int.injEq, true_and] at h2
    have h3 : cs[i]? = some (.int k q) := by
      have : ((cs.drop i).take 1)[0]? = some (.int k q) := by rw [e1]; rfl
      simpa using this
    rw [h3, List.getElem?_map, List.getElem?_eq_getElem (by omega : i < ms.length), h2]
    rfl
  · rw [List.getElem?_eq_none (by omega), List.getElem?_eq_none (by simp; omega)]
theorem laidVar_of_mem {P : Program} {w : World} {n : String} {d : DataW Unit} : ∀ {l : List (String × DataW Unit)} {ps : List MemPlace}, DataW.LaidVars P w l ps → (n, d) ∈ l →
    ∃ g t cs fuel p, P.globalNamed n = some g ∧ (P.globals[g]?).map (·.type) = some t ∧ w.var? P n = some cs ∧ DataW.trod (fun _ => ()) P w 0 (fun _ => true) false fuel t cs.toList = some (d, p) ∧ ∀ x ∈ MemPlace.row ⟨g, 0, none⟩ cs.size, x ∈ ps
  | [], _, _, h => by cases h
  | (n', d') :: l, ps, ⟨g, t, cs, fuel, p, q, h1, h2, h3, h4, h5, h6⟩, h => by
    rcases List.mem_cons.1 h with h | h
    · cases h
      exact ⟨g, t, cs, fuel, p, h1, h2, h3, h4, fun x hx => by rw [h6]; simp [hx]⟩
    · obtain ⟨g', t', cs', fuel', p', k1, k2, k3, k4, k5⟩ := laidVar_of_mem h5 h
      exact ⟨g', t', cs', fuel', p', k1, k2, k3, k4, fun x hx => by rw [h6]; simp [k5 x hx]⟩
/-- The block of a listed table. -/
theorem table_of_laid {P : Program} {W : World} {laid : List (String × DataW Unit)} (h : laidMet P laid W) {n : String} {g N : Nat} {t e : TypeId} {k : IntKind} {ms : List Int} (hg : P.globalNamed n = some g) (hty : (P.globals[g]?).map (·.type) = some t)
    (ht : P.underlying t = some (.array N e)) (he : P.underlying e = some (.int k)) (hct : P.cellsOf t = N) (hce : P.cellsOf e = 1) (hN : 0 < ms.length) (hmem : (n, (.agg (ms.map fun m => .lit (.int k m)) : DataW Unit)) ∈ laid) :
    ∃ t', W.heap[g]? = some (.cells (ms.map (Value.int k)).toArray t' (0, 0)) := by
  obtain ⟨ps, hv, _, hc⟩ := h
  obtain ⟨g', t', cs, fuel, p, k1, k2, k3, k4, k5⟩ := laidVar_of_mem hv hmem
  rw [hg] at k1; cases k1
  rw [hty] at k2; cases k2
  have hcs := cells_of_table ht he hct hce k4
  have hsz : 0 < cs.size := by
    have := congrArg List.length hcs
    simp at this
    omega
  obtain ⟨⟨c, t2, hh⟩, _⟩ := hc g 0 (k5 _ (by simp [MemPlace.row]; exact hsz))
  refine ⟨t2, ?_⟩
  simp only [World.var?, hg, Option.bind_some, hh, Option.some.injEq] at k3
  subst k3
  rw [hh, ← hcs]

/-! ### Tables of structs and arrays: their cells, one after the other. -/
def flatL (f : DataW Unit → Option (List Value)) (c : Nat) : List (DataW Unit) → Option (List Value)
  | [] => some []
  | d :: ds => match f d with
    | some l => match flatL f c ds with
      | some r => some (l ++ r)
      | none => none
    | none => none
theorem flatL_sound {f : DataW Unit → Option (List Value)} {c : Nat} : ∀ (ds : List (DataW Unit)) (cs out : List Value), flatL f c ds = some out → cs.length = ds.length * c → (∀ (i : Nat) d l, ds[i]? = some d → f d = some l → (cs.drop (i * c)).take c = l) → cs = out
  | [], cs, out, h, hl, _ => by
    cases h
    simpa using hl
  | d :: ds, cs, out, h, hl, hc => by
    simp only [flatL] at h
    split at h
    case h_2 => cases h
    rename_i l hf
    split at h
    case h_2 => cases h
    rename_i r hr
    cases h
    have h0 := hc 0 d l rfl hf
    simp only [Nat.zero_mul, List.drop_zero] at h0
    have ih := flatL_sound ds (cs.drop c) r hr (by rw [List.length_drop, hl, List.length_cons, Nat.add_mul]; omega) fun i d' l' hi hf' => by
      have := hc (i + 1) d' l' (by simpa using hi) hf'
      rw [List.drop_drop]
      rw [Nat.add_mul, Nat.one_mul, Nat.add_comm] at this
      exact this
    rw [← List.take_append_drop c cs, h0, ih]
def flatF (P : Program) (f : TypeId → DataW Unit → Option (List Value)) : Nat → List Field → List (DataW Unit) → Option (List Value)
  | _, [], [] => some []
  | off, fl :: fs, d :: ds => bif Nat.beq fl.offset off then match f fl.type d with
      | some l => bif Nat.beq l.length (P.cellsOf fl.type) then match flatF P f (off + P.cellsOf fl.type) fs ds with
          | some r => some (l ++ r)
          | none => none
        else none
      | none => none
    else none
  | _, _, _ => none
theorem flatF_sound {P : Program} {f : TypeId → DataW Unit → Option (List Value)} {cs : List Value} : ∀ (fs : List Field) (ds : List (DataW Unit)) (off : Nat) (out : List Value), flatF P f off fs ds = some out → cs.length = off + out.length →
    (∀ (i : Nat) fl d l, fs[i]? = some fl → ds[i]? = some d → f fl.type d = some l → (cs.drop fl.offset).take (P.cellsOf fl.type) = l) → cs.drop off = out
  | [], [], off, out, h, hl, _ => by
    cases h
    simp only [List.length_nil, Nat.add_zero] at hl
    rw [List.drop_eq_nil_iff]; omega
  | [], _ :: _, _, _, h, _, _ => by cases h
  | _ :: _, [], _, _, h, _, _ => by cases h
  | fl :: fs, d :: ds, off, out, h, hl, hc => by
    simp only [flatF] at h
    cases ho : Nat.beq fl.offset off with
    | false => rw [ho] at h; cases h
    | true =>
      rw [ho] at h
      simp only [cond_true] at h
      split at h
      case h_2 => cases h
      rename_i l hf
      cases hln : Nat.beq l.length (P.cellsOf fl.type) with
      | false => rw [hln] at h; cases h
      | true =>
        rw [hln] at h
        simp only [cond_true] at h
        split at h
        case h_2 => cases h
        rename_i r hr
        cases h
        have e1 := Nat.eq_of_beq_eq_true ho
        have e2 := Nat.eq_of_beq_eq_true hln
        have h0 := hc 0 fl d l rfl rfl hf
        rw [e1] at h0
        have ih := flatF_sound fs ds (off + P.cellsOf fl.type) r hr (by rw [hl, List.length_append, e2]; omega) fun i fl' d' l' q1 q2 q3 => hc (i + 1) fl' d' l' (by simpa using q1) (by simpa using q2) q3
        rw [← List.take_append_drop (P.cellsOf fl.type) (cs.drop off), h0, List.drop_drop, ih]
def flatD (P : Program) : Nat → TypeId → DataW Unit → Option (List Value)
  | 0, _, _ => none
  | n + 1, t, d => match P.underlying t, d with
    | some (.int k), .lit (.int _ m) => some [.int k m]
    | some (.array len e), .agg ds => bif Nat.beq ds.length len && Nat.beq (P.cellsOf t) (len * P.cellsOf e) then flatL (flatD P n e) (P.cellsOf e) ds else none
    | some (.struct fs), .agg ds => match flatF P (flatD P n) 0 fs.toList ds with
      | some out => bif Nat.beq out.length (P.cellsOf t) then some out else none
      | none => none
    | _, _ => none
theorem flatD_sound {P : Program} {enc : TypeId × Value → Unit} {W : World} {base : Nat} {spare : Nat → Bool} {held : Bool} : ∀ (n fuel : Nat) (t : TypeId) (d : DataW Unit) (ds cs : List Value) (p : List MemPlace), flatD P n t d = some ds → DataW.trod enc P W base spare held fuel t cs = some (d, p) → cs = ds
  | 0, _, _, _, _, _, _, h, _ => by cases h
  | n + 1, fuel, t, d, ds, cs, p, h, ht => by
    unfold flatD at h
    split at h
    · rename_i k k' m hu
      cases h
      obtain ⟨q, rfl, e, _⟩ := DataW.trod_int hu ht
      cases e
      rfl
    · rename_i len e parts hu
      generalize hc : (Nat.beq parts.length len && Nat.beq (P.cellsOf t) (len * P.cellsOf e)) = c at h
      cases c with
      | false => cases h
      | true =>
        simp only [cond_true] at h
        simp only [Bool.and_eq_true] at hc
        have e1 := Nat.eq_of_beq_eq_true hc.1
        have e2 := Nat.eq_of_beq_eq_true hc.2
        obtain ⟨xs, m, rfl, hx, hl, hn, hel⟩ := DataW.trod_array hu ht
        simp only [Prod.mk.injEq, DataW.agg.injEq] at hx
        refine flatL_sound parts cs ds h (by rw [hl, e2, e1]) fun i d' l hi hf => ?_
        have hlt : i < len := by
          rcases Nat.lt_or_ge i len with q | q
          · exact q
          · rw [List.getElem?_eq_none (by omega)] at hi; cases hi
        have h1 := hel i hlt
        rw [hx.1, List.getElem?_map] at hi
        cases hxi : xs[i]? with
        | none => rw [hxi] at hi; cases hi
        | some y =>
          rw [hxi] at hi h1
          simp only [Option.map_some, Option.some.injEq] at hi
          subst hi
          exact flatD_sound n _ _ _ _ _ y.2 hf h1
    · rename_i fs parts hu
      split at h
      case h_2 => cases h
      rename_i out ho
      cases hb : Nat.beq out.length (P.cellsOf t) with
      | false => rw [hb] at h; cases h
      | true =>
        rw [hb] at h
        cases h
        obtain ⟨xs, m, rfl, hx, hl, hn, hel⟩ := DataW.trod_struct hu ht
        simp only [Prod.mk.injEq, DataW.agg.injEq] at hx
        have := flatF_sound (cs := cs) fs.toList parts 0 ds ho (by rw [hl, Nat.eq_of_beq_eq_true hb]; omega) fun i fl d' l q1 q2 q3 => by
          have h1 := hel i fl (by simpa using q1)
          rw [hx.1, List.getElem?_map] at q2
          cases hxi : xs[i]? with
          | none => rw [hxi] at q2; cases q2
          | some y =>
            rw [hxi] at q2 h1
            simp only [Option.map_some, Option.some.injEq] at q2
            subst q2
            exact flatD_sound n _ _ _ _ _ y.2 q3 h1
        simpa using this
    · cases h
/-- The block of a listed table, whatever its shape. -/
theorem table_of_laidD {P : Program} {W : World} {laid : List (String × DataW Unit)} (h : laidMet P laid W) {n : String} {g : Nat} {t : TypeId} {d : DataW Unit} {ds : List Value} (hg : P.globalNamed n = some g) (hty : (P.globals[g]?).map (·.type) = some t)
    (hf : flatD P 8 t d = some ds) (hN : 0 < ds.length) (hmem : (n, d) ∈ laid) :
    ∃ t', W.heap[g]? = some (.cells ds.toArray t' (0, 0)) := by
  obtain ⟨ps, hv, _, hc⟩ := h
  obtain ⟨g', t', cs, fuel, p, k1, k2, k3, k4, k5⟩ := laidVar_of_mem hv hmem
  rw [hg] at k1; cases k1
  rw [hty] at k2; cases k2
  have hcs := flatD_sound 8 fuel t d ds cs.toList p hf k4
  have hsz : 0 < cs.size := by
    have := congrArg List.length hcs
    simp at this
    omega
  obtain ⟨⟨c, t2, hh⟩, _⟩ := hc g 0 (k5 _ (by simp [MemPlace.row]; exact hsz))
  refine ⟨t2, ?_⟩
  simp only [World.var?, hg, Option.bind_some, hh, Option.some.injEq] at k3
  subst k3
  rw [hh, ← hcs]
end Ev
end Go.Proofs.YtcphjhciiakhnaaGreatDoor
