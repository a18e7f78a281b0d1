/- The octets that a Long describes. -/
import Derived.Test.YteddodfpgaadoaaDoorOctS
import Derived.RegionCalls
import Derived.Deep.RegionHeld3
import Derived.Deep.DeepCutAuto
namespace Go.Proofs.YteddodfpgaadoaaDoor
open Go.RowKit

/-- At most 65700 octets of copies, whatever the numbers. -/
theorem copies_le (a t : Nat) (ha : a ≤ 300) : a * (min t (65700 / max a 1)) ≤ 65700 := by
  have h1 : min t (65700 / max a 1) ≤ 65700 / max a 1 := Nat.min_le_right _ _
  have h2 : a * (65700 / max a 1) ≤ 65700 := by
    by_cases h : a = 0
    · subst h; simp
    · have : max a 1 = a := by omega
      rw [this]
      exact Nat.mul_div_le _ _
  exact Nat.le_trans (Nat.mul_le_mul_left _ h1) h2

/-- What a Long's octets are good for: a string that is not too long. -/
def LongPost (w : World) (e : Ending) (w' : World) : Prop := (∃ y : ByteArray, y.size ≤ 66000 ∧ e = .returned (.string y)) ∧ Below w.heap.size w w'

theorem rep_small (s : ByteArray) (c : Int) (k : Nat) (w : World) (hc : c = k) (hk : k ≤ 65700) (h : s.size * k ≤ 65700) :
    Calls Tryd.prog 35 #[.string s, .int .i64 c] w fun e w' => e = .returned (.string ⟨(Lib.repeatL s.data.toList k).toArray⟩) ∧ Below w.heap.size w w' := by
  subst hc
  exact Tryd.strings_Repeat s k w (by omega) (by omega)
theorem rep_keep (s : ByteArray) (c : Int) (k g : Nat) (l : ByteArray) (t : Int) (w : World) (R : ByteArray) (hR : R = ⟨(Lib.repeatL s.data.toList k).toArray⟩) (hc : c = k) (hk : k ≤ 65700) (h : s.size * k ≤ 65700)
    (h1 : w.cell? ⟨g, 1, none⟩ = some (.string l)) (h2 : w.cell? ⟨g, 2, none⟩ = some (.int .u16 t)) :
    Calls Tryd.prog 35 #[.string s, .int .i64 c] w fun e w' => e = .returned (.string R) ∧ w'.cell? ⟨g, 1, none⟩ = some (.string l) ∧ w'.cell? ⟨g, 2, none⟩ = some (.int .u16 t) ∧ Below w.heap.size w w' :=
  (rep_small s c k w hc hk h).mono fun _ _ ⟨he, hb⟩ => ⟨by rw [hR]; exact he, cell_kept hb h1, cell_kept hb h2, hb⟩
theorem rep_size (s : ByteArray) (k : Nat) (h : s.size * k ≤ 65700) : (⟨(Lib.repeatL s.data.toList k).toArray⟩ : ByteArray).size ≤ 65700 := by
  show (Lib.repeatL s.data.toList k).toArray.size ≤ _
  rw [List.size_toArray, Lib.repeatL_length, len_eq, Nat.mul_comm]
  exact h

theorem cast_copies (a : Nat) (t : Int) (ht : 0 ≤ t) : min t (65700 / max (a : Int) 1) = ((min t.toNat (65700 / max a 1) : Nat) : Int) := by
  have e : (65700 : Int) / max (a : Int) 1 = ((65700 / max a 1 : Nat) : Int) := by
    rw [Int.natCast_ediv]
    congr 1
    omega
  rw [e]
  omega

set_option maxRecDepth 20000 in
set_option maxHeartbeats 1600000 in
theorem long_octets (s l : ByteArray) (t : Int) (w : World) (hs : s.size ≤ 9223372036854775807) (hl : l.size ≤ 9223372036854775807) (ht0 : 0 ≤ t) (ht1 : t ≤ 65535) :
    Calls Tryd.prog 15 #[.agg #[.string s, .string l, .int .u16 t]] w (LongPost w) := by
  go_enter Tryd.func15, Tryd.ntmps15
  go_upto_region 2 with fail
  have hx : (s.extract 0 (min (s.size : Int) 300).toNat).size ≤ 300 := by simp; omega
  have hy : (l.extract 0 (min (l.size : Int) 300).toNat).size ≤ 300 := by simp; omega
  generalize s.extract 0 (min (s.size : Int) 300).toNat = x at hx ⊢
  have hcp := cast_copies x.size t ht0
  have hle := copies_le x.size t.toNat hx
  have hk : min t.toNat (65700 / max x.size 1) ≤ 65700 := Nat.le_trans (Nat.min_le_right _ _) (Nat.div_le_self _ _)
  have q0 : 0 ≤ 65700 / max (x.size : Int) 1 := Int.ediv_nonneg (by omega) (by omega)
  have q1 : 65700 / max (x.size : Int) 1 ≤ 65700 := by have := Int.ediv_le_self (a := 65700) (max (x.size : Int) 1) (by omega); exact this
  have hbw : Below w.heap.size w (w.alloc (.cells #[.string s, .string l, .int .u16 t] 24)) := (Below.refl _ _).alloc (Nat.le_refl _) _
  have c1 : (w.alloc (.cells #[.string s, .string l, .int .u16 t] 24)).cell? ⟨w.heap.size, 1, none⟩ = some (.string l) := by simp [World.cell?_alloc_new]
  have c2 : (w.alloc (.cells #[.string s, .string l, .int .u16 t] 24)).cell? ⟨w.heap.size, 2, none⟩ = some (.int .u16 t) := by simp [World.cell?_alloc_new]
  generalize w.alloc (.cells #[.string s, .string l, .int .u16 t] 24) = W at hbw c1 c2 ⊢
  obtain ⟨g, hg⟩ : ∃ g, w.heap.size = g := ⟨_, rfl⟩
  rw [hg] at hbw c1 c2 ⊢
  have HG := Lib.hid hg; clear hg
  have HCP := Lib.hid hcp; clear hcp
  obtain ⟨R, hR⟩ : ∃ R : ByteArray, R = ⟨(Lib.repeatL x.data.toList (min t.toNat (65700 / max x.size 1))).toArray⟩ := ⟨_, rfl⟩
  have hRs : R.size ≤ 65700 := by rw [hR]; exact rep_size x _ hle
  have HR := Lib.hid hR; clear hR
  have q5 : (0 : Int) ≤ min (l.size : Int) 300 := by omega
  have q6 : min (l.size : Int) 300 ≤ (l.size : Int) := by omega
  have q8 : ¬ 9223372036854775807 < R.size + (min (l.size : Int) 300).toNat := by omega
  have q7 : R.size + min (min (l.size : Int) 300).toNat l.size ≤ 66000 := by omega
  have q2 : ¬ max (x.size : Int) 1 = 0 := by omega
  have q4 : IntKind.i64.wrap t = t := by rw [IntKind.wrap_i64]; omega
  have q3 : IntKind.i64.wrap (Int.tdiv 65700 (max (x.size : Int) 1)) = 65700 / max (x.size : Int) 1 := by
    rw [Int.tdiv_eq_ediv_of_nonneg (by omega), IntKind.wrap_i64]; omega
  go_region_held3 (fun w' => w'.cell? ⟨g, 1, none⟩ = some (.string l) ∧ w'.cell? ⟨g, 2, none⟩ = some (.int .u16 t)) (go_keep)
    (first | (go_at_call 35; refine (rep_keep x _ _ g l t _ R HR.out HCP.out hk hle ?_ ?_).mono ?_; (simp [*]); (simp [*]); rintro e w1 ⟨rfl, d1, d2, hb1⟩))
  all_goals
    go_wp2_with fail
    go_ret
    have hb2 : Below w.heap.size w w1 := by rw [HG.out]; exact hbw.drew.trans (hb1.mono (by have h := hbw.drew.size; rw [HG.out] at h; exact h))
    refine ⟨⟨_, ?_, rfl⟩, hb2⟩
    show (R ++ _).size ≤ _
    rw [ByteArray.size_append]
    omega
end Go.Proofs.YteddodfpgaadoaaDoor
