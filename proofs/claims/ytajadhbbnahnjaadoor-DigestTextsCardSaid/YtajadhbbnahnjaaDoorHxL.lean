/- DigestTexts: for every input the law returns true and leaves what was there as it was. -/
import Derived.Test.YtajadhbbnahnjaaDoorHxI
import Derived.Test.YtajadhbbnahnjaaDoorHxJ
import Derived.Test.YtajadhbbnahnjaaDoorHxG
import Derived.Deep.RegionHeld3
namespace Go.Proofs.YtajadhbbnahnjaaDoor
open Go.RowKit
set_option maxRecDepth 100000
set_option maxHeartbeats 1600000

theorem str_cut_h (s : ByteArray) (h : Int) (h0 : 0 ≤ h) (h1 : h ≤ s.size) (W : World) : (Instr.sliceAt 9 (.string s) none (some (.int .i64 h)) none).run Tryd.prog W = .ok (.string (s.extract 0 h.toNat)) W := by
  rw [run_sliceAt_string _ _ _ _ _ _ Tryd.underlying9]
  simp [Instr.slice, run_underlying Tryd.underlying9, Instr.sliceBounds, run_sliceBound, h0, h1]
theorem str_cut_l (s : ByteArray) (h : Int) (h0 : 0 ≤ h) (h1 : h ≤ s.size) (W : World) : (Instr.sliceAt 9 (.string s) (some (.int .i64 h)) none none).run Tryd.prog W = .ok (.string (s.extract h.toNat s.size)) W := by
  rw [run_sliceAt_string _ _ _ _ _ _ Tryd.underlying9]
  simp [Instr.slice, run_underlying Tryd.underlying9, Instr.sliceBounds, run_sliceBound, h0, h1]
/-- Both readers of digits say the same of a text. -/
theorem un_two (x : ByteArray) : ∃ (o : List UInt8) (v : Int), o.length = 16 ∧ (∀ w : World, Calls Tryd.prog 7 #[.string x] w fun e w' => e = .returned (.tuple #[.agg (u8s o).toArray, .int .i64 v]) ∧ Bl w w') ∧ (∀ w : World, Calls Tryd.prog 8 #[.string x] w fun e w' => e = .returned (.tuple #[.agg (u8s o).toArray, .int .i64 v]) ∧ Bl w w') := by
  by_cases h : ∃ out : List UInt8, out.length = 16 ∧ hxs out = x.data.toList
  · obtain ⟨o, ho, he⟩ := h
    have key : ∀ (w : World) (e : Ending) (w' : World), UnPost x w e w' → e = .returned (.tuple #[.agg (u8s o).toArray, .int .i64 0]) ∧ Bl w w' := fun w e w' ⟨hp, hb⟩ => by
      rcases hp with ⟨out, h1, h2, rfl⟩ | ⟨h1, _⟩
      · obtain rfl := hxs_inj (by omega) (h2.trans he.symm)
        exact ⟨rfl, hb⟩
      · exact absurd he (h1 o ho)
    exact ⟨o, 0, ho, fun w => (unhex_any x w).mono fun e w' hp => key w e w' hp, fun w => (refu_any x w).mono fun e w' hp => key w e w' hp⟩
  · have key : ∀ (w : World) (e : Ending) (w' : World), UnPost x w e w' → e = .returned (.tuple #[.agg (u8s (List.replicate 16 0)).toArray, .int .i64 5]) ∧ Bl w w' := fun w e w' ⟨hp, hb⟩ => by
      rcases hp with ⟨out, h1, h2, rfl⟩ | ⟨_, rfl⟩
      · exact absurd ⟨out, h1, h2⟩ h
      · exact ⟨rfl, hb⟩
    exact ⟨List.replicate 16 0, 5, rfl, fun w => (unhex_any x w).mono fun e w' hp => key w e w' hp, fun w => (refu_any x w).mono fun e w' hp => key w e w' hp⟩
theorem four_ix (a b c d : ByteArray) (k : Nat) (hk : k < 4) : ∃ x : ByteArray, ∀ W : World, (Instr.index 26 (.agg #[.string a, .string b, .string c, .string d]) (.int .i64 (k : Int))).run Tryd.prog W = .ok (.string x) W := by
  have := fun (cs : List Value) (v : Value) (h : cs[k]? = some v) (W : World) => index_arr Tryd.underlying26 (by kernel_rfl) (Option.isSome_iff_exists.1 (by kernel_rfl)) (by kernel_rfl) cs k hk v h W
  obtain rfl | rfl | rfl | rfl : k = 0 ∨ k = 1 ∨ k = 2 ∨ k = 3 := by omega
  · exact ⟨a, fun W => this [.string a, .string b, .string c, .string d] _ rfl W⟩
  · exact ⟨b, fun W => this [.string a, .string b, .string c, .string d] _ rfl W⟩
  · exact ⟨c, fun W => this [.string a, .string b, .string c, .string d] _ rfl W⟩
  · exact ⟨d, fun W => this [.string a, .string b, .string c, .string d] _ rfl W⟩
theorem byte_str (c : Int) (h : 0 ≤ c ∧ c ≤ 255) (W : World) (g : Nat) (hg : W.cell? ⟨g, 0, none⟩ = some (.int .u8 c)) : (convert 25 9 (.slice (some ⟨g, 0, none⟩) 1 1)).run Tryd.prog W = .ok (.string ⟨#[UInt8.ofNat c.toNat]⟩) W := by
  have e : ((UInt8.ofNat c.toNat).toNat : Int) = c := by rw [UInt8.toNat_ofNat_of_lt' (show c.toNat < 256 by omega)]; omega
  exact run_convert_bytes_back (P := Tryd.prog) W 25 9 5 ⟨g, 0, none⟩ 1 [UInt8.ofNat c.toNat] Tryd.underlying25 Tryd.underlying5 Tryd.underlying9 (fun j hj => by
    obtain rfl : j = 0 := by simpa using hj
    simp only [List.getElem_cons_zero, e]
    exact hg)
end Go.Proofs.YtajadhbbnahnjaaDoor
