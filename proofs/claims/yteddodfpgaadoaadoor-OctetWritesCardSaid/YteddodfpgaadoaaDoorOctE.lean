/- Contracts of octet.isText, Text, PutText, Pad, and of the writers' own names. -/
import Derived.Test.YteddodfpgaadoaaDoorOctD
import Derived.Test.YteddodfpgaadoaaDoorShelf
import Derived.Laws.RangeString
import Derived.Laws.RangeAny
namespace Go.Proofs.YteddodfpgaadoaaDoor
open Go.RowKit

def goodB (b : UInt8) : Bool := decide (32 ≤ b.toNat ∧ b.toNat ≤ 126)
def textB (l : List UInt8) : Bool := l.all goodB

theorem textB_cut (l : List UInt8) (k : Nat) (h : ∀ j (hj : j < l.length), j < k → goodB l[j] = true) (hk : l.length ≤ k) : textB l = true := by
  unfold textB
  rw [List.all_eq_true]
  intro x hx
  obtain ⟨j, hj, rfl⟩ := List.mem_iff_getElem.1 hx
  exact h j hj (by omega)
theorem textB_no (l : List UInt8) (k : Nat) (hk : k < l.length) (h : goodB l[k] = false) : textB l = false := by
  unfold textB
  rw [List.all_eq_false]
  exact ⟨l[k], List.getElem_mem hk, by simp [h]⟩

theorem len_eq (s : ByteArray) : s.data.toList.length = s.size := (Lib.size_eq s).symm
theorem textB_yes (s : ByteArray) (pos : Nat) (h : ∀ j (hj : j < s.size), j < pos → goodB s[j] = true) (hp : ¬ pos < s.size) : textB s.data.toList = true :=
  textB_cut _ pos (fun j hj hk => h j (by rw [len_eq] at hj; exact hj) hk) (by rw [len_eq]; omega)
theorem textB_bad (s : ByteArray) (pos : Nat) (hp : pos < s.size) (h : goodB s[pos] = false) : textB s.data.toList = false :=
  textB_no _ pos (by rw [len_eq]; exact hp) h

theorem below_iter (w : World) (s : ByteArray) (pos : Nat) : Below w.heap.size w (w.iter s pos) := (Below.refl _ _).alloc (Nat.le_refl _) _

set_option maxRecDepth 20000 in
set_option maxHeartbeats 800000 in
theorem isText_any (s : ByteArray) (w : World) :
    Calls Tryd.prog 36 #[.string s] w fun e w' => e = .returned (.bool (textB s.data.toList)) ∧ Below w.heap.size w w' := by
  go_enter Tryd.func36, Tryd.ntmps36
  go_wp2
  go_step3
  go_wp2
  go_step3
  go_wp2
  go_loopw [3] (fun ok w' => ∃ pos : Nat, w' = w.iter s pos ∧ ok = .bool true ∧ Hid (∀ j (hj : j < s.size), j < pos → goodB s[j] = true)) (fun _ w' => s.size - w'.iterPos w.heap.size)
  case atStart => exact ⟨0, rfl, rfl, fun j hj h => by omega⟩
  case round =>
    obtain ⟨pos, rfl, rfl, hall⟩ := hrel
    by_cases hp : pos < s.size
    · by_cases ha : goodB s[pos] = true
      · have hd := decode_ascii s pos hp (by unfold goodB at ha; simp at ha; omega)
        have hnx : ∀ ty, (Instr.next (.pointer (some ⟨w.heap.size, 0, none⟩)) true ty).run Tryd.prog (w.iter s pos) = _ := fun ty => run_next_any w s pos ty hp
        rw [hd] at hnx
        have h1 : (32 : Int) ≤ (s[pos].toNat : Int) := by unfold goodB at ha; simp at ha; omega
        have h2 : (s[pos].toNat : Int) ≤ 126 := by unfold goodB at ha; simp at ha; omega
        clear hd
        have HA := Lib.hid ha; clear ha
        go_wp2
        go_roundw
        case rel => exact ⟨pos + 1, rfl, rfl, fun j hj h => by
          by_cases e : j = pos
          · subst e; exact HA.out
          · exact hall j hj (by omega)⟩
        case measure => simp; omega
      · have ha' : goodB s[pos] = false := by simpa using ha
        have HB := Lib.hid (textB_bad s pos hp ha')
        have hnx : ∀ ty, (Instr.next (.pointer (some ⟨w.heap.size, 0, none⟩)) true ty).run Tryd.prog (w.iter s pos) = _ := fun ty => run_next_any w s pos ty hp
        have hr : ¬ ((32 : Int) ≤ ((Utf8.decode s pos).1 : Int) ∧ ((Utf8.decode s pos).1 : Int) ≤ 126) := by
          by_cases hlow : s[pos].toNat < 128
          · rw [decode_ascii s pos hp hlow]
            unfold goodB at ha'; simp only [decide_eq_false_iff_not] at ha'
            omega
          · have := (decode_high s pos hp (by omega)).1
            omega
        clear ha ha'
        obtain ⟨r, hr'⟩ : ∃ r : Nat, r = (Utf8.decode s pos).1 := ⟨_, rfl⟩
        rw [← hr'] at hnx hr
        clear hr'
        by_cases h1 : (32 : Int) ≤ (r : Int)
        · have h2 : ¬ (r : Int) ≤ 126 := fun h => hr ⟨h1, h⟩
          clear hr
          go_wp2
          go_ret
          exact ⟨by rw [HB.out]; rfl, below_iter _ _ _⟩
        · clear hr
          go_wp2
          go_ret
          exact ⟨by rw [HB.out]; rfl, below_iter _ _ _⟩
    · have HB := Lib.hid (textB_yes s pos hall hp)
      have hnx : ∀ ty, (Instr.next (.pointer (some ⟨w.heap.size, 0, none⟩)) true ty).run Tryd.prog (w.iter s pos) = _ := fun ty => run_next_end w s pos ty hp
      go_wp2
      rw [Exit.noGoto_ret]
      go_ret
      exact ⟨by rw [HB.out]; rfl, below_iter _ _ _⟩

/-! The writers' own names. -/
theorem putU8_ok (n : Int) (w : World) (h0 : 0 ≤ n) (h1 : n ≤ 255) :
    Calls Tryd.prog 7 #[.int .i64 n] w fun e w' => e = .returned (.tuple #[.string ⟨#[oc n 1]⟩, .int .i64 0]) ∧ Below w.heap.size w w' := by
  go_enter Tryd.func7, Tryd.ntmps7
  go_wp2_with fail
  refine (put8_ok n _ h0 h1).mono ?_
  rintro e w' ⟨rfl, hb⟩
  go_wp2_with fail
  go_ret2
  exact ⟨rfl, hb⟩
theorem putU8_high (n : Int) (w : World) (h0 : 255 < n) :
    Calls Tryd.prog 7 #[.int .i64 n] w fun e w' => e = .returned (.tuple #[.string ByteArray.empty, .int .i64 2]) ∧ Below w.heap.size w w' := by
  go_enter Tryd.func7, Tryd.ntmps7
  go_wp2_with fail
  refine (put8_high n _ h0).mono ?_
  rintro e w' ⟨rfl, hb⟩
  go_wp2_with fail
  go_ret2
  exact ⟨rfl, hb⟩
theorem putU16_ok (n : Int) (w : World) (h0 : 0 ≤ n) (h1 : n ≤ 65535) :
    Calls Tryd.prog 8 #[.int .i64 n] w fun e w' => e = .returned (.tuple #[.string ⟨#[oc n 256, oc n 1]⟩, .int .i64 0]) ∧ Below w.heap.size w w' := by
  go_enter Tryd.func8, Tryd.ntmps8
  go_wp2_with fail
  refine (put16_ok n _ h0 h1).mono ?_
  rintro e w' ⟨rfl, hb⟩
  go_wp2_with fail
  go_ret2
  exact ⟨rfl, hb⟩
theorem putU32_ok (n : Int) (w : World) (h0 : 0 ≤ n) (h1 : n ≤ 4294967295) :
    Calls Tryd.prog 9 #[.int .i64 n] w fun e w' => e = .returned (.tuple #[.string ⟨#[oc n 16777216, oc n 65536, oc n 256, oc n 1]⟩, .int .i64 0]) ∧ Below w.heap.size w w' := by
  go_enter Tryd.func9, Tryd.ntmps9
  go_wp2_with fail
  refine (put32_ok n _ h0 h1).mono ?_
  rintro e w' ⟨rfl, hb⟩
  go_wp2_with fail
  go_ret2
  exact ⟨rfl, hb⟩
theorem putS32_ok (n : Int) (w : World) (h0 : -2147483648 ≤ n) (h1 : n ≤ 2147483647) :
    Calls Tryd.prog 10 #[.int .i64 n] w fun e w' => e = .returned (.tuple #[.string ⟨#[oc n 16777216, oc n 65536, oc n 256, oc n 1]⟩, .int .i64 0]) ∧ Below w.heap.size w w' := by
  go_enter Tryd.func10, Tryd.ntmps10
  go_wp2_with fail
  refine (puts_ok n _ h0 h1).mono ?_
  rintro e w' ⟨rfl, hb⟩
  go_wp2_with fail
  go_ret2
  exact ⟨rfl, hb⟩

end Go.Proofs.YteddodfpgaadoaaDoor
