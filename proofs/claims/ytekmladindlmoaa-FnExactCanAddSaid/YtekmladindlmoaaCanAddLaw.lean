/- The law of CanAdd: the walk (printed by wip/gen_boxlaw.py). -/
import Derived.Test.YtekmladindlmoaaBoxLaw
import Derived.Test.YtekmladindlmoaaBoxWith
import Derived.Test.YtekmladindlmoaaBoxSpec
import Derived.Test.YtekmladindlmoaaCardSame2
import Derived.Deep.DeepCutAuto
import Derived.Deep.RegionHeld3
namespace Go.Proofs.Ytekmladindlmoaa.Box
open Go.ChangeShapes Go.WideShapes Go.ChangeAt Go.RowKit
open Go.Proofs.Ytekmladindlmoaa.Strip Go.Proofs.Ytekmladindlmoaa.Strs Go.Proofs.Ytekmladindlmoaa.Card
set_option linter.unusedVariables false

set_option maxRecDepth 100000 in
set_option maxHeartbeats 16000000 in
theorem exactCanAdd (d f : Int) (a : Option Addr) (c : Nat) (l : List ByteArray) (F L A : Int) (w : World) (hn : l.length ≤ maxLen) (hz : ∀ s ∈ l, s.size ≤ maxLen) (hr : ARow w a l) (hA : (Lit.int .i64 A).wf = true) :
    Calls Try.prog 4 #[.agg #[.int .i64 d, .int .i64 f, .slice a l.length c], .agg #[.int .i64 F, .int .i64 L, .int .i64 A]] w fun e w' => e = .returned (.bool true) ∧ Below w.heap.size w w' := by
  have HSZ := Lib.hid (fun (w' : World) (hr : ARow w' a l) => sz_card 1048576 (by omega) (by omega) d f a l.length c l w' rfl hn hz hr)
  have HR := Lib.hid hr
  have HB := Lib.hid (Below.refl w.heap.size w)
  obtain ⟨hA0, hA1⟩ := i64_bounds hA
  clear hA
  have hnx := hn
  unfold maxLen at hnx
  by_cases hneg : szV 1048576 l < 0
  · rw [sz_big hneg] at HSZ
    clear hr hz hneg
    go_enter Try.func4, Try.ntmps4
    go_wp2_with fail
    refine (HSZ.out _ ((HR.out.below (alloc_below _ _)).below (alloc_below _ _))).mono ?_
    rintro e w1 ⟨rfl, hb⟩
    go_wp2
    go_ret
    exact ⟨rfl, ((alloc_below w _).trans ((alloc_below _ _).mono (by simp))).trans (hb.mono (by simp; omega))⟩
  · obtain ⟨g1, g2, g3, g4⟩ := szV_ok hneg
    have HLEN := Lib.hid (show l.length ≤ 1048576 by omega)
    have HZ1 := Lib.hid (show ∀ s ∈ l, s.size ≤ 1048576 from fun s hs => by have := g2 s hs; omega)
    clear g2
    generalize szV 1048576 l = r at *
    clear g1 hneg hz hr
    have hsp := fun (w' : World) (x : Nat) (a' : Option Addr) (c' : Nat) (h : Own w' x (.slice a' l.length c') l) => canAdd_spec d f F L A x l.length c' a' l w' HLEN.out h HZ1.out hA0 hA1
    have him := fun (w' : World) (x : Nat) (a' : Option Addr) (c' : Nat) (h : Own w' x (.slice a' l.length c') l) => canAdd_impl d f F L A x l.length c' a' l w' HLEN.out h HZ1.out hA0 hA1
    generalize boxB 100 d f l F L A = ok at *
    have HSP := Lib.hid hsp
    have HIM := Lib.hid him
    clear hsp him
    have hok : (ok != ok) = false := by simp
    have hl0 : (0 : Int) ≤ (l.length : Int) := Int.natCast_nonneg _
    have hl1 : (l.length : Int) ≤ 1048576 := by have := HLEN.out; omega
    go_enter Try.func4, Try.ntmps4
    go_wp2_with fail
    have LV := Lib.hid ((LVar.new w d f (.slice a l.length c)).below (alloc_below _ (.cells #[.int .i64 F, .int .i64 L, .int .i64 A] 46)))
    have hx := LBox.new (w.alloc (.cells #[.int .i64 d, .int .i64 f, .slice a l.length c] 45)) F L (.int .i64 A)
    rw [show (w.alloc (.cells #[.int .i64 d, .int .i64 f, .slice a l.length c] 45)).heap.size = w.heap.size + 1 by simp] at hx
    have LU := Lib.hid hx
    have hs_w1 : w.heap.size + 1 < ((w.alloc (.cells #[.int .i64 d, .int .i64 f, .slice a l.length c] 45)).alloc (.cells #[.int .i64 F, .int .i64 L, .int .i64 A] 46)).heap.size := hx.lt
    clear hx
    have HB := Lib.hid ((HB.out.alloc HB.out.size (.cells #[.int .i64 d, .int .i64 f, .slice a l.length c] 45)).alloc (by simp) (.cells #[.int .i64 F, .int .i64 L, .int .i64 A] 46))
    generalize ((w.alloc (.cells #[.int .i64 d, .int .i64 f, .slice a l.length c] 45)).alloc (.cells #[.int .i64 F, .int .i64 L, .int .i64 A] 46)) = w1 at *
    refine (HSZ.out _ (HR.out.since (Nat.le_refl _) HB.out)).mono ?_
    rintro e w2 ⟨rfl, hb⟩
    have LV := Lib.hid (LV.out.below hb)
    have LU := Lib.hid (LU.out.below hb)
    have HB := Lib.hid (HB.out.trans (hb.mono HB.out.size))
    have hs_w2 : w1.heap.size ≤ w2.heap.size := hb.size
    clear hb
    obtain ⟨lv_0, lv_1, lv_2⟩ := LV.out.cells
    obtain ⟨lu_0, lu_1, lu_2⟩ := LU.out.cells
    go_wp2_with fail
    have S0 : w2.cell? ⟨w.heap.size, 0, none⟩ = some (.int .i64 d) ∧ w2.cell? ⟨w.heap.size, 1, none⟩ = some (.int .i64 f) ∧ w2.cell? ⟨w.heap.size, 2, none⟩ = some (.slice a l.length c) ∧ w2.cell? ⟨w.heap.size + 1, 0, none⟩ = some (.int .i64 F) ∧ w2.cell? ⟨w.heap.size + 1, 1, none⟩ = some (.int .i64 L) ∧ w2.cell? ⟨w.heap.size + 1, 2, none⟩ = some (.int .i64 A) ∧ Below w2.heap.size w2 w2 := ⟨lv_0, lv_1, lv_2, lu_0, lu_1, lu_2, Below.refl _ _⟩
    have HTO := Lib.hid (fun (w' : World) (hb : Below w2.heap.size w2 w') => to_card d f a l.length c l w' rfl HLEN.out (HR.out.since (Nat.le_refl _) (HB.out.trans (hb.mono HB.out.size))))
    have HTO2 := Lib.hid (fun (w' : World) => to_box F L A w')
    go_region_held3 (fun w' => w'.cell? ⟨w.heap.size, 0, none⟩ = some (.int .i64 d) ∧ w'.cell? ⟨w.heap.size, 1, none⟩ = some (.int .i64 f) ∧ w'.cell? ⟨w.heap.size, 2, none⟩ = some (.slice a l.length c) ∧ w'.cell? ⟨w.heap.size + 1, 0, none⟩ = some (.int .i64 F) ∧ w'.cell? ⟨w.heap.size + 1, 1, none⟩ = some (.int .i64 L) ∧ w'.cell? ⟨w.heap.size + 1, 2, none⟩ = some (.int .i64 A) ∧ Below w2.heap.size w2 w')
      (first | exact S0 | exact eqs_drew S0 | exact eqs_next (by assumption) hb | exact eqs_next (by assumption) hb2 | exact eqs_next (by assumption) hb3 | exact eqs_drew (by assumption) | assumption)
      ((first | (go_at_call_of 25 (Value.agg #[.int .i64 d, .int .i64 f, .slice a l.length c]); refine (HTO.out _ (eqs_below (by assumption))).mono ?_; rintro e wx ⟨as_, cs_, rfl, hb, hox⟩; have OX := Lib.hid hox; clear hox) | (go_at_call_of 26 (Value.agg #[.int .i64 F, .int .i64 L, .int .i64 A]); refine (HTO2.out _).mono ?_; rintro e wy ⟨rfl, hb2⟩; have OX := Lib.hid (OX.out.below hb2)) | (go_at_call 24; refine (HSP.out _ _ _ _ OX.out).mono ?_; rintro e w3 ⟨rfl, hb3⟩)))
    have hbz : Below w2.heap.size w2 w3 := eqs_below (w' := w3) (by assumption)
    clear S0 HTO HTO2 hb2 hb3 hb OX
    clear lv_0 lv_1 lv_2 lu_0 lu_1 lu_2
    have LV := Lib.hid (LV.out.below hbz)
    have LU := Lib.hid (LU.out.below hbz)
    have HB := Lib.hid (HB.out.trans (hbz.mono HB.out.size))
    have hs_w3 : w2.heap.size ≤ w3.heap.size := hbz.size
    clear hbz
    obtain ⟨lv_0, lv_1, lv_2⟩ := LV.out.cells
    go_wp2_with fail
    clear lv_0 lv_1 lv_2
    refine (to_card d f a l.length c l _ rfl HLEN.out (HR.out.since (Nat.le_refl _) HB.out)).mono ?_
    rintro e w4 ⟨ax, cx, rfl, hb, ho⟩
    have LV := Lib.hid (LV.out.below hb)
    have LU := Lib.hid (LU.out.below hb)
    have HB := Lib.hid (HB.out.trans (hb.mono HB.out.size))
    have hs_w4 : w3.heap.size ≤ w4.heap.size := hb.size
    clear hb
    have Ox := Lib.hid ho
    have Nx := Lib.hid ho.lt
    clear ho
    go_wp2_with fail
    have hv0 := Var.new w4 d f (.slice ax l.length cx)
    have hb := alloc_below w4 (.cells #[.int .i64 d, .int .i64 f, .slice ax l.length cx] 26)
    have LV := Lib.hid (LV.out.below hb)
    have LU := Lib.hid (LU.out.below hb)
    have Ox := Lib.hid (Ox.out.below hb)
    have HB := Lib.hid (HB.out.trans (hb.mono HB.out.size))
    have hs_w5 : w4.heap.size < (w4.alloc (.cells #[.int .i64 d, .int .i64 f, .slice ax l.length cx] 26)).heap.size := hv0.lt
    have VX := Lib.hid hv0
    clear hv0 hb
    generalize (w4.alloc (.cells #[.int .i64 d, .int .i64 f, .slice ax l.length cx] 26)) = w5 at *
    obtain ⟨vx_0, vx_1, vx_2⟩ := VX.out.cells
    obtain ⟨lu_0, lu_1, lu_2⟩ := LU.out.cells
    go_wp2_with fail
    have S0 : w5.cell? ⟨w4.heap.size, 0, none⟩ = some (.int .i64 d) ∧ w5.cell? ⟨w4.heap.size, 1, none⟩ = some (.int .i64 f) ∧ w5.cell? ⟨w4.heap.size, 2, none⟩ = some (.slice ax l.length cx) ∧ w5.cell? ⟨w.heap.size + 1, 0, none⟩ = some (.int .i64 F) ∧ w5.cell? ⟨w.heap.size + 1, 1, none⟩ = some (.int .i64 L) ∧ w5.cell? ⟨w.heap.size + 1, 2, none⟩ = some (.int .i64 A) ∧ Below w5.heap.size w5 w5 := ⟨vx_0, vx_1, vx_2, lu_0, lu_1, lu_2, Below.refl _ _⟩
    have HTO := Lib.hid (fun (w' : World) (hb : Below w5.heap.size w5 w') => to_card d f a l.length c l w' rfl HLEN.out (HR.out.since (Nat.le_refl _) (HB.out.trans (hb.mono HB.out.size))))
    have HTO2 := Lib.hid (fun (w' : World) => to_box F L A w')
    have OX0 := Lib.hid (fun (w' : World) (hb : Below w5.heap.size w5 w') => Ox.out.below hb)
    go_region_held3 (fun w' => w'.cell? ⟨w4.heap.size, 0, none⟩ = some (.int .i64 d) ∧ w'.cell? ⟨w4.heap.size, 1, none⟩ = some (.int .i64 f) ∧ w'.cell? ⟨w4.heap.size, 2, none⟩ = some (.slice ax l.length cx) ∧ w'.cell? ⟨w.heap.size + 1, 0, none⟩ = some (.int .i64 F) ∧ w'.cell? ⟨w.heap.size + 1, 1, none⟩ = some (.int .i64 L) ∧ w'.cell? ⟨w.heap.size + 1, 2, none⟩ = some (.int .i64 A) ∧ Below w5.heap.size w5 w')
      (first | exact S0 | exact eqs_drew S0 | exact eqs_next (by assumption) hb | exact eqs_next (by assumption) hb2 | exact eqs_next (by assumption) hb3 | exact eqs_drew (by assumption) | assumption)
      ((first | (go_at_call_of 26 (Value.agg #[.int .i64 F, .int .i64 L, .int .i64 A]); refine (HTO2.out _).mono ?_; rintro e wy ⟨rfl, hb2⟩) | (go_at_call 22; refine (HIM.out _ _ _ _ (OX0.out _ (eqs_below (by assumption)))).mono ?_; rintro e w6 ⟨rfl, hb3⟩)))
    have hbz : Below w5.heap.size w5 w6 := eqs_below (w' := w6) (by assumption)
    clear S0 HTO HTO2 hb2 hb3 OX0
    clear vx_0 vx_1 vx_2 lu_0 lu_1 lu_2
    have LV := Lib.hid (LV.out.below hbz)
    have LU := Lib.hid (LU.out.below hbz)
    have Ox := Lib.hid (Ox.out.below hbz)
    have VX := Lib.hid (VX.out.below hbz)
    have HB := Lib.hid (HB.out.trans (hbz.mono HB.out.size))
    have hs_w6 : w5.heap.size ≤ w6.heap.size := hbz.size
    clear hbz
    obtain ⟨vx_0, vx_1, vx_2⟩ := VX.out.cells
    obtain ⟨lv_0, lv_1, lv_2⟩ := LV.out.cells
    go_wp2_with fail
    have S0 : w6.cell? ⟨w4.heap.size, 0, none⟩ = some (.int .i64 d) ∧ w6.cell? ⟨w4.heap.size, 1, none⟩ = some (.int .i64 f) ∧ w6.cell? ⟨w4.heap.size, 2, none⟩ = some (.slice ax l.length cx) ∧ w6.cell? ⟨w.heap.size, 0, none⟩ = some (.int .i64 d) ∧ w6.cell? ⟨w.heap.size, 1, none⟩ = some (.int .i64 f) ∧ w6.cell? ⟨w.heap.size, 2, none⟩ = some (.slice a l.length c) ∧ Below w6.heap.size w6 w6 := ⟨vx_0, vx_1, vx_2, lv_0, lv_1, lv_2, Below.refl _ _⟩
    have HTO := Lib.hid (fun (w' : World) (hb : Below w6.heap.size w6 w') => to_card d f a l.length c l w' rfl HLEN.out (HR.out.since (Nat.le_refl _) (HB.out.trans (hb.mono HB.out.size))))
    have HTO2 := Lib.hid (fun (w' : World) => to_box F L A w')
    have HXR := Lib.hid (fun (w' : World) (hb : Below w6.heap.size w6 w') => (Ox.out.below hb).row2.2)
    go_region_held3 (fun w' => w'.cell? ⟨w4.heap.size, 0, none⟩ = some (.int .i64 d) ∧ w'.cell? ⟨w4.heap.size, 1, none⟩ = some (.int .i64 f) ∧ w'.cell? ⟨w4.heap.size, 2, none⟩ = some (.slice ax l.length cx) ∧ w'.cell? ⟨w.heap.size, 0, none⟩ = some (.int .i64 d) ∧ w'.cell? ⟨w.heap.size, 1, none⟩ = some (.int .i64 f) ∧ w'.cell? ⟨w.heap.size, 2, none⟩ = some (.slice a l.length c) ∧ Below w6.heap.size w6 w')
      (first | exact S0 | exact eqs_drew S0 | exact eqs_next (by assumption) hb | exact eqs_next (by assumption) hb2 | exact eqs_next (by assumption) hb3 | exact eqs_drew (by assumption) | assumption)
      ((first | (go_at_call 25; refine (HTO.out _ (eqs_below (by assumption))).mono ?_; rintro e wy ⟨at_, ct_, rfl, hb, hoy⟩; have OY := Lib.hid hoy; clear hoy) | (go_at_call 27; refine (eq_card d f l.length cx ct_ ax at_ l rfl HLEN.out _ (HXR.out _ (eqs_below (by assumption))) (OY.out.row2.2)).mono ?_; rintro e wz1 ⟨rfl, hb2⟩)))
    have hbz : Below w6.heap.size w6 wz1 := eqs_below (w' := wz1) (by assumption)
    clear S0 HTO HTO2 HXR hb hb2 OY
    clear vx_0 vx_1 vx_2 lv_0 lv_1 lv_2
    have LV := Lib.hid (LV.out.below hbz)
    have LU := Lib.hid (LU.out.below hbz)
    have Ox := Lib.hid (Ox.out.below hbz)
    have VX := Lib.hid (VX.out.below hbz)
    have HB := Lib.hid (HB.out.trans (hbz.mono HB.out.size))
    have hs_wz1 : w6.heap.size ≤ wz1.heap.size := hbz.size
    clear hbz
    go_wp2
    go_ret
    exact ⟨rfl, HB.out⟩
end Go.Proofs.Ytekmladindlmoaa.Box
