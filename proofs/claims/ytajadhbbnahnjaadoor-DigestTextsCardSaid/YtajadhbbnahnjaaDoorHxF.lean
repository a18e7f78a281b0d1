/- DigestBack: for every input the law returns true and leaves what was there as it was. -/
import Derived.Test.YtajadhbbnahnjaaDoorHxD
import Derived.Test.YtajadhbbnahnjaaDoorArr
namespace Go.Proofs.YtajadhbbnahnjaaDoor
open Go.RowKit
set_option maxRecDepth 100000
set_option maxHeartbeats 6400000

theorem list_sixteen {α : Type} (l : List α) (h : l.length = 16) : ∃ a b c d e f g h i j k m n o p q, l = [a, b, c, d, e, f, g, h, i, j, k, m, n, o, p, q] := by
  match l, h with
  | [a, b, c, d, e, f, g, h, i, j, k, m, n, o, p, q], _ => exact ⟨a, b, c, d, e, f, g, h, i, j, k, m, n, o, p, q, rfl⟩
theorem hex_l (l : List UInt8) (hl : l.length = 16) (w : World) : Calls Tryd.prog 9 #[.agg (u8s l).toArray] w fun e w' => e = .returned (.string ⟨(hxs l).toArray⟩) ∧ Bl w w' := by
  obtain ⟨b0, b1, b2, b3, b4, b5, b6, b7, b8, b9, b10, b11, b12, b13, b14, b15, rfl⟩ := list_sixteen l hl
  exact hex_x b0 b1 b2 b3 b4 b5 b6 b7 b8 b9 b10 b11 b12 b13 b14 b15 w
theorem unhex_yes (l : List UInt8) (hl : l.length = 16) (w : World) : Calls Tryd.prog 7 #[.string ⟨(hxs l).toArray⟩] w fun e w' => e = .returned (.tuple #[.agg (u8s l).toArray, .int .i64 0]) ∧ Bl w w' :=
  (unhex_any ⟨(hxs l).toArray⟩ w).mono fun _ _ ⟨h, hb⟩ => by
    rcases h with ⟨out, ho, he, rfl⟩ | ⟨h, _⟩
    · obtain rfl := hxs_inj (by omega) he
      exact ⟨rfl, hb⟩
    · exact absurd rfl (h l hl)
theorem unhex_no (t : ByteArray) (h : ¬ ∃ out : List UInt8, out.length = 16 ∧ hxs out = t.data.toList) (w : World) : Calls Tryd.prog 7 #[.string t] w fun e w' => e = .returned (.tuple #[.agg #[.int .u8 0, .int .u8 0, .int .u8 0, .int .u8 0, .int .u8 0, .int .u8 0, .int .u8 0, .int .u8 0, .int .u8 0, .int .u8 0, .int .u8 0, .int .u8 0, .int .u8 0, .int .u8 0, .int .u8 0, .int .u8 0], .int .i64 5]) ∧ Bl w w' :=
  (unhex_any t w).mono fun _ _ ⟨hp, hb⟩ => by
    rcases hp with ⟨out, ho, he, _⟩ | ⟨_, rfl⟩
    · exact absurd ⟨out, ho, he⟩ h
    · exact ⟨by simp [u8s, List.replicate_succ], hb⟩
theorem eq16 (a b : List UInt8) (ha : a.length = 16) (hb : b.length = 16) (W : World) : (Op.equalIn 10000 22 (.agg (u8s a).toArray) (.agg (u8s b).toArray)).run Tryd.prog W = .ok (decide (a = b)) W := by
  have h := run_eq_ints Tryd.underlying22 Tryd.underlying5 (by kernel_rfl) (a.map fun x => (x.toNat : Int)) (b.map fun x => (x.toNat : Int)) (by simpa using ha) (by simpa using hb) W
  rw [List.map_map, List.map_map] at h
  have e : decide (a.map (fun x => (x.toNat : Int)) = b.map fun x => (x.toNat : Int)) = decide (a = b) := by
    congr 1
    rw [eq_iff_iff]
    constructor
    · intro h
      exact List.map_inj_right (fun x y h => UInt8.toNat_inj.1 (Int.ofNat.inj h)) |>.1 h
    · rintro rfl; rfl
  rw [e] at h
  exact h
theorem row_zero (w : World) (t : TypeId) : Row16 (w.alloc (.cells #[.int .u8 0, .int .u8 0, .int .u8 0, .int .u8 0, .int .u8 0, .int .u8 0, .int .u8 0, .int .u8 0, .int .u8 0, .int .u8 0, .int .u8 0, .int .u8 0, .int .u8 0, .int .u8 0, .int .u8 0, .int .u8 0] t)) w.heap.size (List.replicate 16 0) := by
  have := row_new w (List.replicate 16 0) t
  rw [← zl16] at this
  exact this
theorem wpList_load_midG {P : Program} {ops : Array Oper} {rest : List Oper} {op : Oper} {a : Act} {w : World} {Q : Exit → Act → World → Prop} (ty : TypeId) (x : Operand) (ho : op.op = .load ty x)
    (b o : Nat) (hx : a.eval x = .pointer (some ⟨b, o, none⟩)) (cs : List Value) (d : TypeDesc) (hc : w.rangeAt b o cs)
    (hu : P.underlying ty = some d) (hd : d.isRow = true) (hi : (P.info? ty).map (·.size) = some cs.length) (hw : Region.wanted op (yielded ops a.tmps) = true)
    (h : wpList P ops Q rest (a.put op.dst (.agg cs.toArray)) w) : wpList P ops Q (op :: rest) a w := by
  refine wpList_step (fun K hK => ?_)
  rw [if_pos hw]
  exact wp_load_mid ty x ho b o hx cs d hc hu hd hi (hK _ _ h)
/-- What a walk wants of sixteen octets that lie in a block. -/
structure Rg (w : World) (g : Nat) (l : List UInt8) : Prop where
  range : w.rangeAt g 0 (u8s l)
  info : (Tryd.prog.info? 22).map (·.size) = some (u8s l).length
structure Th (w : World) (g : Nat) (l : List UInt8) : Prop where
  there : w.there g 0 (u8s l).toArray.size
  info : (Tryd.prog.info? 22).map (·.size) = some (u8s l).toArray.size
  all : (u8s l).toArray.all (·.oneCell') = true
theorem Row16.rg {w : World} {g : Nat} {l : List UInt8} (h : Row16 w g l) (hl : l.length = 16) : Rg w g l := ⟨h.range, by rw [info16]; simp [u8s, hl]⟩
theorem Row16.th {w : World} {g : Nat} {l : List UInt8} (h : Row16 w g l) (hl : l.length = 16) (v : List UInt8) (hv : v.length = 16) : Th w g v :=
  ⟨by rw [show (u8s v).toArray.size = 16 by simp [u8s, hv]]; exact h.there hl, by rw [info16]; simp [u8s, hv], u8s_all v⟩
theorem Bl.stored {w0 w : World} {g : Nat} (h : Bl w0 w) (hg : w0.heap.size ≤ g) (vs : List Value) : Bl w0 (w.setCells g 0 vs) := below_setCells hg vs 0 w h
theorem Row16.stored_far {g g' : Nat} (hg : g' ≠ g) {l : List UInt8} : ∀ (vs : List Value) (o : Nat) {w : World}, Row16 w g l → Row16 (w.setCells g' o vs) g l
  | [], _, _, h => h
  | v :: vs, o, _, h => stored_far hg vs (o + 1) (h.far g' o v hg)

theorem unhex_zero (t : ByteArray) (h : ¬ ∃ out : List UInt8, out.length = 16 ∧ hxs out = t.data.toList) (w : World) : Calls Tryd.prog 7 #[.string t] w fun e w' => e = .returned (.tuple #[.agg (u8s (List.replicate 16 0)).toArray, .int .i64 5]) ∧ Bl w w' :=
  (unhex_any t w).mono fun _ _ ⟨hp, hb⟩ => by
    rcases hp with ⟨out, ho, he, _⟩ | ⟨_, rfl⟩
    · exact absurd ⟨out, ho, he⟩ h
    · exact ⟨rfl, hb⟩
theorem back_one (l : List UInt8) (hl : l.length = 16) (t : ByteArray) (ht : t.size ≤ 9223372036854775807) (w : World)
    (hw : ∀ v : World, Bl w v → Calls Tryd.prog 5 #[] v fun e w' => e = .returned (.bool true) ∧ Bl v w') :
    Calls Tryd.prog 4 #[.agg (u8s l).toArray, .string t] w fun e w' => e = .returned (.bool true) ∧ Bl w w' := by
  have HW := Lib.hid hw; clear hw
  have HTT := Lib.hid ht; clear ht
  have hqq : ∀ W : World, (Op.equalIn 10000 22 (.agg (u8s l).toArray) (.agg (u8s l).toArray)).run Tryd.prog W = .ok true W := fun W => by rw [eq16 l l hl hl W]; simp
  have hgd : Tryd.prog.eqGuardType Tryd.prog.depth 22 = false := by kernel_rfl
  obtain ⟨H, hH⟩ : ∃ H : ByteArray, (⟨(hxs l).toArray⟩ : ByteArray) = H := ⟨_, rfl⟩
  have hHs : H.size = 32 := by rw [← hH]; show (hxs l).toArray.size = 32; rw [List.size_toArray, hxs_length, hl]
  have hhex := hex_l l hl
  have hun := unhex_yes l hl
  rw [hH] at hhex hun
  have HX := Lib.hid hhex; have HU := Lib.hid hun; have HL := Lib.hid hl
  clear hhex hun hH hl
  go_enter Tryd.func4, Tryd.ntmps4
  go_wp2_with fail
  refine (HW.out _ (Bl.new w _)).mono ?_
  rintro e w1 ⟨rfl, h1⟩
  have R1 : Row16 w1 w.heap.size l := (row_new w l _).keep h1 (by rw [HL.out]; decide)
  have hb1 : Bl w w1 := (Bl.new w _).trans h1
  clear h1
  obtain ⟨g, hg⟩ : ∃ g, w.heap.size = g := ⟨_, rfl⟩
  have HG := Lib.hid hg
  rw [hg] at R1 ⊢
  clear hg
  have G1 := R1.rg HL.out
  go_wp2_with ((with_reducible refine wpList_load_mid rfl 22 (.tmp 2) rfl g 0 ?hx (u8s l) _ G1.range Tryd.underlying22 ?hy G1.info ?_); (case hx => rfl); (case hy => rfl))
  refine (HX.out _).mono ?_
  rintro e w2 ⟨rfl, h2⟩
  go_wp2_with fail
  refine (HU.out _).mono ?_
  rintro e w3 ⟨rfl, h3⟩
  have R3 : Row16 w3 g l := (R1.keep h2 (by rw [HL.out]; decide)).keep h3 (by rw [HL.out]; decide)
  have hb3 : Bl w w3 := (hb1.trans h2).trans h3
  clear R1 G1 h2 h3 hb1
  have R4 : Row16 (w3.alloc (.cells #[.int .u8 0, .int .u8 0, .int .u8 0, .int .u8 0, .int .u8 0, .int .u8 0, .int .u8 0, .int .u8 0, .int .u8 0, .int .u8 0, .int .u8 0, .int .u8 0, .int .u8 0, .int .u8 0, .int .u8 0, .int .u8 0] 22)) g l := R3.keep (Bl.new _ _) (by rw [HL.out]; decide)
  have T4 := (row_zero w3 22).th rfl l HL.out
  have S4 := (row_zero w3 22).stored rfl l HL.out
  have F4 : Row16 ((w3.alloc (.cells #[.int .u8 0, .int .u8 0, .int .u8 0, .int .u8 0, .int .u8 0, .int .u8 0, .int .u8 0, .int .u8 0, .int .u8 0, .int .u8 0, .int .u8 0, .int .u8 0, .int .u8 0, .int .u8 0, .int .u8 0, .int .u8 0] 22)).setCells w3.heap.size 0 (u8s l)) g l := R4.stored_far (by have := World.block_lt_of_cell? w3 _ (R3.cell 0 (by rw [HL.out]; decide)); simp at this; omega) _ 0
  have hb4 : Bl w ((w3.alloc (.cells #[.int .u8 0, .int .u8 0, .int .u8 0, .int .u8 0, .int .u8 0, .int .u8 0, .int .u8 0, .int .u8 0, .int .u8 0, .int .u8 0, .int .u8 0, .int .u8 0, .int .u8 0, .int .u8 0, .int .u8 0, .int .u8 0] 22)).setCells w3.heap.size 0 (u8s l)) := (hb3.trans (Bl.new _ _)).stored hb3.size _
  have GA := S4.rg HL.out
  have GB := F4.rg HL.out
  have HR := Lib.hid hb4; have HF := Lib.hid F4
  clear R3 R4 S4 F4 hb3 hb4
  go_wp2_with (first
    | ((with_reducible refine wpList_store_mid rfl 22 (.tmp 5) (.tmp 14) rfl w3.heap.size 0 (u8s l).toArray ?hx ?hy T4.there T4.info T4.all ?_); (case hx => rfl); (case hy => rfl))
    | ((with_reducible refine wpList_load_midG 22 (.tmp 5) rfl w3.heap.size 0 ?hx (u8s l) _ GA.range Tryd.underlying22 ?hy GA.info ?hw ?_); (case hx => rfl); (case hy => rfl); (case hw => rfl))
    | ((with_reducible refine wpList_load_midG 22 (.tmp 2) rfl g 0 ?hx (u8s l) _ GB.range Tryd.underlying22 ?hy GB.info ?hw ?_); (case hx => rfl); (case hy => rfl); (case hw => rfl)))
  refine (HX.out _).mono ?_
  rintro e w5 ⟨rfl, h5⟩
  have hb5 : Bl w w5 := HR.out.trans h5
  clear HR HF h5 GA GB T4
  have ht := HTT.out
  go_upto_region 7 with fail
  have hsz : (t.extract 0 (min (t.size : Int) 40).toNat).size ≤ 40 := by simp; omega
  generalize t.extract 0 (min (t.size : Int) 40).toNat = y at hsz ⊢
  clear ht hsz hqq hHs
  by_cases hy : ∃ out : List UInt8, out.length = 16 ∧ hxs out = y.data.toList
  · obtain ⟨out, ho, he⟩ := hy
    have hey : (⟨(hxs out).toArray⟩ : ByteArray) = y := by
      apply ByteArray.ext
      rw [he]
    have hun := unhex_yes out ho
    have hhex := hex_l out ho
    rw [hey] at hhex hun
    have HX2 := Lib.hid hhex; have HU2 := Lib.hid hun; have HO := Lib.hid ho
    clear hhex hun hey he ho
    go_wp2_with fail
    refine (HU2.out _).mono ?_
    rintro e w6 ⟨rfl, h6⟩
    have hb6 := hb5.trans h6
    clear hb5 h6
    have T4 := (row_zero w6 22).th rfl out HO.out
    have GA := ((row_zero w6 22).stored rfl out HO.out).rg HO.out
    have hb7 : Bl w ((w6.alloc (.cells #[.int .u8 0, .int .u8 0, .int .u8 0, .int .u8 0, .int .u8 0, .int .u8 0, .int .u8 0, .int .u8 0, .int .u8 0, .int .u8 0, .int .u8 0, .int .u8 0, .int .u8 0, .int .u8 0, .int .u8 0, .int .u8 0] 22)).setCells w6.heap.size 0 (u8s out)) := (hb6.trans (Bl.new _ _)).stored hb6.size _
    have HR := Lib.hid hb7; clear hb7
    go_wp2_with (first
      | ((with_reducible refine wpList_store_mid rfl 22 (.tmp 7) (.tmp 37) rfl w6.heap.size 0 (u8s out).toArray ?hx ?hy T4.there T4.info T4.all ?_); (case hx => rfl); (case hy => rfl))
      | ((with_reducible refine wpList_load_midG 22 (.tmp 7) rfl w6.heap.size 0 ?hx (u8s out) _ GA.range Tryd.underlying22 ?hy GA.info ?hw ?_); (case hx => rfl); (case hy => rfl); (case hw => rfl)))
    refine (HX2.out _).mono ?_
    rintro e w7 ⟨rfl, h7⟩
    have hb8 : Bl w w7 := HR.out.trans h7
    clear HR h7 hb6 T4 GA
    go_wp2_with fail
    go_ret
    exact ⟨rfl, hb8⟩
  · have hun := unhex_zero y hy
    obtain ⟨z, hz⟩ : ∃ z, List.replicate 16 (0 : UInt8) = z := ⟨_, rfl⟩
    have hzl : z.length = 16 := by rw [← hz]; rfl
    have hqz : ∀ W : World, (Op.equalIn 10000 22 (.agg (u8s z).toArray) (.agg #[.int .u8 0, .int .u8 0, .int .u8 0, .int .u8 0, .int .u8 0, .int .u8 0, .int .u8 0, .int .u8 0, .int .u8 0, .int .u8 0, .int .u8 0, .int .u8 0, .int .u8 0, .int .u8 0, .int .u8 0, .int .u8 0])).run Tryd.prog W = .ok true W := fun W => by
      rw [show (#[.int .u8 0, .int .u8 0, .int .u8 0, .int .u8 0, .int .u8 0, .int .u8 0, .int .u8 0, .int .u8 0, .int .u8 0, .int .u8 0, .int .u8 0, .int .u8 0, .int .u8 0, .int .u8 0, .int .u8 0, .int .u8 0] : Array Value) = (u8s z).toArray by rw [← hz]; exact z16, eq16 z z hzl hzl W]
      simp
    rw [hz] at hun
    have HU2 := Lib.hid hun; have HZ := Lib.hid hzl
    clear hun hy hz hzl
    go_wp2_with fail
    refine (HU2.out _).mono ?_
    rintro e w6 ⟨rfl, h6⟩
    have hb6 := hb5.trans h6
    clear hb5 h6
    have T4 := (row_zero w6 22).th rfl z HZ.out
    have GA := ((row_zero w6 22).stored rfl z HZ.out).rg HZ.out
    have hb7 : Bl w ((w6.alloc (.cells #[.int .u8 0, .int .u8 0, .int .u8 0, .int .u8 0, .int .u8 0, .int .u8 0, .int .u8 0, .int .u8 0, .int .u8 0, .int .u8 0, .int .u8 0, .int .u8 0, .int .u8 0, .int .u8 0, .int .u8 0, .int .u8 0] 22)).setCells w6.heap.size 0 (u8s z)) := (hb6.trans (Bl.new _ _)).stored hb6.size _
    have HR := Lib.hid hb7; clear hb7
    go_wp2_with (first
      | ((with_reducible refine wpList_store_mid rfl 22 (.tmp 7) (.tmp 37) rfl w6.heap.size 0 (u8s z).toArray ?hx ?hy T4.there T4.info T4.all ?_); (case hx => rfl); (case hy => rfl))
      | ((with_reducible refine wpList_load_midG 22 (.tmp 7) rfl w6.heap.size 0 ?hx (u8s z) _ GA.range Tryd.underlying22 ?hy GA.info ?hw ?_); (case hx => rfl); (case hy => rfl); (case hw => rfl)))
    go_ret
    exact ⟨rfl, HR.out⟩
end Go.Proofs.YtajadhbbnahnjaaDoor
