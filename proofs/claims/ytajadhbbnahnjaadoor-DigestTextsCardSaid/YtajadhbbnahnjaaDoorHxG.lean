/- An array of bytes that came in, as bytes. -/
import Derived.Test.YtajadhbbnahnjaaDoorHxF
import Derived.Test.YtajadhbbnahnjaaDoorOpenArr
namespace Go.Proofs.YtajadhbbnahnjaaDoor
open Go.RowKit
theorem bytes_of : ∀ (l : List Int), (∀ x ∈ l, (Lit.int .u8 x).wf = true) → ∃ b : List UInt8, l.map (Value.int .u8) = u8s b ∧ b.length = l.length
  | [], _ => ⟨[], rfl, rfl⟩
  | x :: l, h => by
    obtain ⟨b, hb, hn⟩ := bytes_of l fun y hy => h y (List.mem_cons_of_mem _ hy)
    have hx : 0 ≤ x ∧ x ≤ 255 := by simpa [Lit.wf, IntKind.min, IntKind.max, IntKind.signed, IntKind.bits] using h x (by simp)
    refine ⟨UInt8.ofNat x.toNat :: b, ?_, by simp [hn]⟩
    have e : ((UInt8.ofNat x.toNat).toNat : Int) = x := by
      rw [UInt8.toNat_ofNat_of_lt' (show x.toNat < 256 by omega)]; omega
    simp only [List.map_cons, hb, u8s, e]
theorem back_ints (l : List Int) (hl : l.length = 16) (hx : ∀ x ∈ l, (Lit.int .u8 x).wf = true) (t : ByteArray) (ht : t.size ≤ 9223372036854775807) (w : World)
    (hw : ∀ v : World, Bl w v → Calls Tryd.prog 5 #[] v fun e w' => e = .returned (.bool true) ∧ Bl v w') :
    Calls Tryd.prog 4 #[.agg (l.map (Value.int .u8)).toArray, .string t] w fun e w' => e = .returned (.bool true) ∧ Bl w w' := by
  obtain ⟨b, hb, hn⟩ := bytes_of l hx
  rw [hb]
  exact back_one b (hn.trans hl) t ht w hw
end Go.Proofs.YtajadhbbnahnjaaDoor
