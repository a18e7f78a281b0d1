/- Reading digits: plain facts. -/
import Derived.Test.YtajadhbbnahnjaaDoorHxB
import Derived.Test.YtajadhbbnahnjaaDoorShelf
import Derived.Laws.BitsLemmas
namespace Go.Proofs.YtajadhbbnahnjaaDoor
open Go.RowKit
set_option maxRecDepth 100000

/-- The number of a digit, -1 if it is none. -/
def un (b : UInt8) : Int := Lib.indexByte digs.data.toList b
theorem un_all : ∀ n : Nat, n < 256 → (un (UInt8.ofNat n) = -1 ∨ ((0 ≤ un (UInt8.ofNat n) ∧ un (UInt8.ofNat n) < 16) ∧ hd (un (UInt8.ofNat n)).toNat = UInt8.ofNat n)) := by decide +kernel
theorem un_hd : ∀ n : Nat, n < 16 → un (hd n) = (n : Int) := by decide +kernel
theorem un_is (b : UInt8) : un b = -1 ∨ ((0 ≤ un b ∧ un b < 16) ∧ hd (un b).toNat = b) := by
  have := un_all b.toNat b.toNat_lt
  rwa [UInt8.ofNat_toNat] at this
theorem hx_inj {a b : UInt8} (h : hx a = hx b) : a = b := by
  simp only [hx, List.cons.injEq, and_true] at h
  have ha := a.toNat_lt; have hb := b.toNat_lt
  have h1 := un_hd (a.toNat / 16) (by omega); have h2 := un_hd (b.toNat / 16) (by omega)
  have h3 := un_hd (a.toNat % 16) (by omega); have h4 := un_hd (b.toNat % 16) (by omega)
  rw [h.1, h2] at h1
  rw [h.2, h4] at h3
  exact UInt8.toNat_inj.1 (by omega)
theorem hxs_inj : ∀ {a b : List UInt8}, a.length = b.length → hxs a = hxs b → a = b
  | [], [], _, _ => rfl
  | x :: a, y :: b, hl, h => by
    have e : hxs (x :: a) = hx x ++ hxs a := rfl
    have e' : hxs (y :: b) = hx y ++ hxs b := rfl
    rw [e, e'] at h
    have := List.append_inj h rfl
    rw [hx_inj this.1, hxs_inj (by simpa using hl) this.2]
theorem hxs_un {l : List UInt8} : ∀ b ∈ hxs l, 0 ≤ un b := fun b hb => by
  simp only [hxs, List.mem_flatMap, hx, List.mem_cons, List.not_mem_nil, or_false] at hb
  obtain ⟨a, _, rfl | rfl⟩ := hb
  · rw [un_hd _ (by have := a.toNat_lt; omega)]; omega
  · rw [un_hd _ (by omega)]; omega

/-- What has been read of k digits, all of them valid: whole octets, then half of one, then zeros. -/
structure Read (t acc : List UInt8) (k : Nat) : Prop where
  len : acc.length = 16
  whole : ∀ j, j < k / 2 → (∃ a b, t[2 * j]? = some a ∧ t[2 * j + 1]? = some b ∧ (acc[j]?).map hx = some [a, b])
  half : k % 2 = 1 → ∃ a, t[k - 1]? = some a ∧ ∃ d : UInt8, acc[k / 2]? = some d ∧ d.toNat < 16 ∧ hd d.toNat = a
  rest : ∀ j, (k + 1) / 2 ≤ j → j < 16 → acc[j]? = some 0
theorem Read.zero (t : List UInt8) : Read t (List.replicate 16 0) 0 :=
  ⟨rfl, fun j h => by omega, fun h => by omega, fun j _ h => by rw [List.getElem?_replicate, if_pos h]⟩
theorem Read.even {t acc : List UInt8} {k : Nat} (h : Read t acc k) (hk : k % 2 = 0) (hk2 : k < 32) {c : UInt8} (hc : t[k]? = some c) {d : UInt8} (hd1 : d.toNat < 16) (hd2 : hd d.toNat = c) : Read t (acc.set (k / 2) d) (k + 1) := by
  refine ⟨by simp [h.len], fun j hj => ?_, fun _ => ?_, fun j h1 h2 => ?_⟩
  · rw [List.getElem?_set_ne (by omega)]
    exact h.whole j (by omega)
  · refine ⟨c, by simpa using hc, d, ?_, hd1, hd2⟩
    rw [show (k + 1) / 2 = k / 2 by omega, List.getElem?_set_self (by have := h.len; omega)]
  · rw [List.getElem?_set_ne (by omega)]
    exact h.rest j (by omega) h2
theorem Read.odd {t acc : List UInt8} {k : Nat} (h : Read t acc k) (hk : k % 2 = 1) (hk2 : k < 32) {c : UInt8} (hc : t[k]? = some c) {d0 x : UInt8} (h0 : acc[k / 2]? = some d0) (hx1 : x.toNat / 16 = d0.toNat) (hx2 : hd (x.toNat % 16) = c) : Read t (acc.set (k / 2) x) (k + 1) := by
  obtain ⟨a, ha, d, hd1, hd2, hd3⟩ := h.half hk
  rw [h0] at hd1
  obtain rfl := Option.some.inj hd1
  refine ⟨by simp [h.len], fun j hj => ?_, fun hh => by omega, fun j h1 h2 => ?_⟩
  · by_cases e : j = k / 2
    · subst e
      refine ⟨a, c, ?_, ?_, ?_⟩
      · rw [show 2 * (k / 2) = k - 1 by omega]; exact ha
      · rw [show 2 * (k / 2) + 1 = k by omega]; exact hc
      · rw [List.getElem?_set_self (by have := h.len; omega)]
        simp [hx, hx1, hx2, hd3]
    · rw [List.getElem?_set_ne (by omega)]
      exact h.whole j (by omega)
  · rw [List.getElem?_set_ne (by omega)]
    exact h.rest j (by omega) h2
theorem hxs_get : ∀ (l : List UInt8) (j : Nat), (hxs l)[2 * j]? = (l[j]?).map (fun b => hd (b.toNat / 16)) ∧ (hxs l)[2 * j + 1]? = (l[j]?).map (fun b => hd (b.toNat % 16))
  | [], j => by simp [hxs]
  | b :: l, 0 => by simp [hxs, hx]
  | b :: l, j + 1 => by
    have e : hxs (b :: l) = hd (b.toNat / 16) :: hd (b.toNat % 16) :: hxs l := rfl
    rw [e, show 2 * (j + 1) = 2 * j + 1 + 1 by omega]
    simpa using hxs_get l j
theorem Read.done {t acc : List UInt8} (h : Read t acc 32) (ht : t.length = 32) : hxs acc = t := by
  apply List.ext_getElem?
  intro i
  by_cases hi : i < 32
  · obtain ⟨a, b, h1, h2, h3⟩ := h.whole (i / 2) (by omega)
    obtain ⟨g1, g2⟩ := hxs_get acc (i / 2)
    have hj : i / 2 < acc.length := by have := h.len; omega
    rw [List.getElem?_eq_getElem hj] at h3 g1 g2
    simp only [Option.map_some, Option.some.injEq, hx, List.cons.injEq, and_true] at h3 g1 g2
    rcases Nat.mod_two_eq_zero_or_one i with e | e
    · rw [show i = 2 * (i / 2) by omega, g1, h1, h3.1]
    · rw [show i = 2 * (i / 2) + 1 by omega, g2, h2, h3.2]
  · rw [List.getElem?_eq_none (by rw [hxs_length, h.len]; omega), List.getElem?_eq_none (by omega)]
end Go.Proofs.YtajadhbbnahnjaaDoor
