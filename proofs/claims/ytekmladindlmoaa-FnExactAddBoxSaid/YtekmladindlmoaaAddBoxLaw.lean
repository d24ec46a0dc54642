/- The law of AddBox: the walk (printed by wip/gen_boxlaw.py). -/
import Derived.Test.YtekmladindlmoaaBoxLaw
import Derived.Test.YtekmladindlmoaaBoxWith
import Derived.Test.YtekmladindlmoaaBoxSpec2
import Derived.Deep.DeepCutAuto
import Derived.Deep.RegionHeld3
namespace Go.Proofs.Ytekmladindlmoaa.Box
open Go.ChangeShapes Go.WideShapes Go.ChangeAt Go.RowKit
open Go.Proofs.Ytekmladindlmoaa.Strip Go.Proofs.Ytekmladindlmoaa.Strs Go.Proofs.Ytekmladindlmoaa.Card
set_option linter.unusedVariables false

section
variable {w0 w' : World} {p1 p2 p3 p4 p5 p6 : Addr} {u1 u2 u3 u4 u5 u6 : Value}
/-- What stood in a world stands in every world that leaves it alone. -/
theorem six_of (h : w0.cell? p1 = some u1 ∧ w0.cell? p2 = some u2 ∧ w0.cell? p3 = some u3 ∧ w0.cell? p4 = some u4 ∧ w0.cell? p5 = some u5 ∧ w0.cell? p6 = some u6 ∧ Below w0.heap.size w0 w0) (hb : Below w0.heap.size w0 w') :
    w'.cell? p1 = some u1 ∧ w'.cell? p2 = some u2 ∧ w'.cell? p3 = some u3 ∧ w'.cell? p4 = some u4 ∧ w'.cell? p5 = some u5 ∧ w'.cell? p6 = some u6 ∧ Below w0.heap.size w0 w' := by
  obtain ⟨h1, h2, h3, h4, h5, h6, h7⟩ := h
  have k : ∀ {p : Addr} {u : Value}, w0.cell? p = some u → w'.cell? p = some u := fun {p u} e => (hb.cell (p := p) (World.block_lt_of_cell? _ _ e)).trans e
  exact ⟨k h1, k h2, k h3, k h4, k h5, k h6, hb⟩
end

set_option maxRecDepth 100000 in
set_option maxHeartbeats 16000000 in
theorem exactAddBox (d f : Int) (a : Option Addr) (c : Nat) (l : List ByteArray) (F L A : Int) (w : World) (hn : l.length ≤ maxLen) (hz : ∀ s ∈ l, s.size ≤ maxLen) (hr : ARow w a l) (hA : (Lit.int .i64 A).wf = true) :
    Calls Try.prog 5 #[.agg #[.int .i64 d, .int .i64 f, .slice a l.length c], .agg #[.int .i64 F, .int .i64 L, .int .i64 A]] w fun e w' => e = .returned (.bool true) ∧ Below w.heap.size w w' := by
  have HSZ := Lib.hid (fun (w' : World) (hr : ARow w' a l) => sz_card 1048576 (by omega) (by omega) d f a l.length c l w' rfl hn hz hr)
  have HR := Lib.hid hr
  have HB := Lib.hid (Below.refl w.heap.size w)
  obtain ⟨hA0, hA1⟩ := i64_bounds hA
  clear hA
  have hnx := hn
  unfold maxLen at hnx
  by_cases hneg : szV 1048576 l < 0
  · rw [sz_big hneg] at HSZ
    clear hr hz hneg
    go_enter Try.func5, Try.ntmps5
    go_wp2_with fail
    refine (HSZ.out _ ((HR.out.below (alloc_below _ _)).below (alloc_below _ _))).mono ?_
    rintro e w1 ⟨rfl, hb⟩
    go_wp2
    go_ret
    exact ⟨rfl, ((alloc_below w _).trans ((alloc_below _ _).mono (by simp))).trans (hb.mono (by simp; omega))⟩
  · obtain ⟨g1, g2, g3, g4⟩ := szV_ok hneg
    have HLEN := Lib.hid (show l.length ≤ 1048576 by omega)
    have HZ1 := Lib.hid (show ∀ s ∈ l, s.size ≤ 1048576 from fun s hs => by have := g2 s hs; omega)
    clear g2
    generalize szV 1048576 l = r at *
    clear g1 hneg hz hr
    have hsp := fun (w' : World) (x : Nat) (a' : Option Addr) (c' : Nat) (h : Own w' x (.slice a' l.length c') l) => add_spec d f F L A x l.length c' a' l w' HLEN.out h HZ1.out hA0 hA1
    have him := fun (w' : World) (x : Nat) (a' : Option Addr) (c' : Nat) (h : Own w' x (.slice a' l.length c') l) => add_impl d f F L A x l.length c' a' l w' HLEN.out h HZ1.out hA0 hA1
    unfold Gave2 at hsp him
    have hml := boxL_length 100 d f l F L A
    generalize boxL 100 d f l F L A = M at *
    have hm2 : M.length ≤ 1048576 := by have := HLEN.out; omega
    generalize boxB 100 d f l F L A = ok at *
    have HSP := Lib.hid hsp
    have HIM := Lib.hid him
    clear hsp him hml
    have hok : (ok != ok) = false := by simp
    have hl0 : (0 : Int) ≤ (l.length : Int) := Int.natCast_nonneg _
    have hl1 : (l.length : Int) ≤ 1048576 := by have := HLEN.out; omega
    have hLL0 : (0 : Int) ≤ (M.length : Int) := Int.natCast_nonneg _
    have hLL1 : (M.length : Int) ≤ 1048576 := by omega
    have hqq : ((1 + (M.length : Int)) != (1 + (M.length : Int))) = false := by simp
    go_enter Try.func5, Try.ntmps5
    go_wp2_with fail
    have LV := Lib.hid ((LVar.new w d f (.slice a l.length c)).below (alloc_below _ (.cells #[.int .i64 F, .int .i64 L, .int .i64 A] 46)))
    have hx := LBox.new (w.alloc (.cells #[.int .i64 d, .int .i64 f, .slice a l.length c] 45)) F L (.int .i64 A)
    rw [show (w.alloc (.cells #[.int .i64 d, .int .i64 f, .slice a l.length c] 45)).heap.size = w.heap.size + 1 by simp] at hx
    have LU := Lib.hid hx
    have hs_w1 : w.heap.size + 1 < ((w.alloc (.cells #[.int .i64 d, .int .i64 f, .slice a l.length c] 45)).alloc (.cells #[.int .i64 F, .int .i64 L, .int .i64 A] 46)).heap.size := hx.lt
    clear hx
    have HB := Lib.hid ((HB.out.alloc HB.out.size (.cells #[.int .i64 d, .int .i64 f, .slice a l.length c] 45)).alloc (by simp) (.cells #[.int .i64 F, .int .i64 L, .int .i64 A] 46))
    generalize ((w.alloc (.cells #[.int .i64 d, .int .i64 f, .slice a l.length c] 45)).alloc (.cells #[.int .i64 F, .int .i64 L, .int .i64 A] 46)) = w1 at *
    refine (HSZ.out _ (HR.out.since (Nat.le_refl _) HB.out)).mono ?_
    rintro e w2 ⟨rfl, hb⟩
    have LV := Lib.hid (LV.out.below hb)
    have LU := Lib.hid (LU.out.below hb)
    have HB := Lib.hid (HB.out.trans (hb.mono HB.out.size))
    have hs_w2 : w1.heap.size ≤ w2.heap.size := hb.size
    clear hb
    go_upto_region 5 with (fail)
    obtain ⟨lv_0, lv_1, lv_2⟩ := LV.out.cells
    obtain ⟨lu_0, lu_1, lu_2⟩ := LU.out.cells
    have S0 : w2.cell? ⟨w.heap.size, 0, none⟩ = some (.int .i64 d) ∧ w2.cell? ⟨w.heap.size, 1, none⟩ = some (.int .i64 f) ∧ w2.cell? ⟨w.heap.size, 2, none⟩ = some (.slice a l.length c) ∧ w2.cell? ⟨w.heap.size + 1, 0, none⟩ = some (.int .i64 F) ∧ w2.cell? ⟨w.heap.size + 1, 1, none⟩ = some (.int .i64 L) ∧ w2.cell? ⟨w.heap.size + 1, 2, none⟩ = some (.int .i64 A) ∧ Below w2.heap.size w2 w2 := ⟨lv_0, lv_1, lv_2, lu_0, lu_1, lu_2, Below.refl _ _⟩
    have HTO := Lib.hid (fun (w' : World) (hb : Below w2.heap.size w2 w') => to_card d f a l.length c l w' rfl HLEN.out (HR.out.since (Nat.le_refl _) (HB.out.trans (hb.mono HB.out.size))))
    have HTO2 := Lib.hid (fun (w' : World) => to_box F L A w')
    go_cut [6, 7] (fun s6 s7 wx => ∃ (b6 : Nat) (aw : Option Addr) (cw : Nat), s6 = .pointer (some ⟨b6, 0, none⟩) ∧ s7 = .bool ok ∧ Hid (Var wx b6 d f (.slice aw M.length cw)) ∧ Hid (Own wx w2.heap.size (.slice aw M.length cw) M) ∧ Hid (Below w2.heap.size w2 wx) ∧ w2.heap.size ≤ b6)
    case first =>
      go_region_held3 (fun w' => w'.cell? ⟨w.heap.size, 0, none⟩ = some (.int .i64 d) ∧ w'.cell? ⟨w.heap.size, 1, none⟩ = some (.int .i64 f) ∧ w'.cell? ⟨w.heap.size, 2, none⟩ = some (.slice a l.length c) ∧ w'.cell? ⟨w.heap.size + 1, 0, none⟩ = some (.int .i64 F) ∧ w'.cell? ⟨w.heap.size + 1, 1, none⟩ = some (.int .i64 L) ∧ w'.cell? ⟨w.heap.size + 1, 2, none⟩ = some (.int .i64 A) ∧ Below w2.heap.size w2 w')
        (first | with_reducible exact S0 | with_reducible exact eqs_drew S0 | with_reducible exact eqs_next (by assumption) hb | with_reducible exact eqs_drew (by assumption) | with_reducible assumption | with_reducible exact eqs_next (by assumption) (alloc_below _ _) | with_reducible exact six_of S0 (HWZ.out.alloc HWZ.out.size _) | with_reducible exact six_of S0 (((HWZ.out.setCell (by first | exact HWZ.out.size | exact hby.size | exact hbx.size | exact Nat.le_refl _ | (simp; done) | omega) _).setCell (by first | exact HWZ.out.size | exact hby.size | exact hbx.size | exact Nat.le_refl _ | (simp; done) | omega) _).setCell (by first | exact HWZ.out.size | exact hby.size | exact hbx.size | exact Nat.le_refl _ | (simp; done) | omega) _))
        ((first | (go_at_call_of 25 (Value.agg #[.int .i64 d, .int .i64 f, .slice a l.length c]); refine (HTO.out _ (eqs_below (by assumption))).mono ?_; rintro e wx ⟨as_, cs_, rfl, hb, hox⟩; have hbx : Below w2.heap.size w2 wx := Below.trans (eqs_below (by assumption)) (hb.mono (Below.size (eqs_below (by assumption)))); have OX := Lib.hid hox; clear hox; (first | (have HV := Lib.hid (HV.out.below hb)) | (have hv0 := Var.below (Var.new _ 0 0 (.slice none 0 0)) hb; have HV := Lib.hid hv0; clear hv0) | (have hv0 := Var.below (w := (w2.alloc (.cells #[.int .i64 0, .int .i64 0, .slice none 0 0] 26)).drew) (b := w2.heap.size) (Var.new w2 0 0 (.slice none 0 0)) hb; have HV := Lib.hid hv0; clear hv0) | skip)) | (go_at_call_of 26 (Value.agg #[.int .i64 F, .int .i64 L, .int .i64 A]); refine (HTO2.out _).mono ?_; rintro e wy ⟨rfl, hb⟩; have hby : Below w2.heap.size w2 wy := Below.trans (eqs_below (by assumption)) (hb.mono (Below.size (eqs_below (by assumption)))); (first | (have OX := Lib.hid (OX.out.below hb)) | (have OX := Lib.hid ((OX.out.below (alloc_below _ _)).below hb))); (first | (have HV := Lib.hid (HV.out.below hb)) | (have hv0 := Var.below (Var.new _ 0 0 (.slice none 0 0)) hb; have HV := Lib.hid hv0; clear hv0) | (have hv0 := Var.below (w := (w2.alloc (.cells #[.int .i64 0, .int .i64 0, .slice none 0 0] 26)).drew) (b := w2.heap.size) (Var.new w2 0 0 (.slice none 0 0)) hb; have HV := Lib.hid hv0; clear hv0) | skip)) | (go_at_call 28; refine (HSP.out _ _ _ _ (by first | exact OX.out | exact OX.out.below (alloc_below _ _))).mono ?_; rintro e wz ⟨aw, cw, rfl, hb, how⟩; have hbz : Below w2.heap.size w2 wz := Below.trans (eqs_below (by assumption)) (hb.mono (Below.size (eqs_below (by assumption)))); have HWZ := Lib.hid hbz; have OW := Lib.hid (how.mono (base2 := w2.heap.size) (Below.size (eqs_below (by assumption)))); clear how; (first | (have HV := Lib.hid (HV.out.below hb)) | (have hv0 := Var.below (Var.new _ 0 0 (.slice none 0 0)) hb; have HV := Lib.hid hv0; clear hv0) | (have hv0 := Var.below (w := (w2.alloc (.cells #[.int .i64 0, .int .i64 0, .slice none 0 0] 26)).drew) (b := w2.heap.size) (Var.new w2 0 0 (.slice none 0 0)) hb; have HV := Lib.hid hv0; clear hv0) | skip); (first | (have hv_0 := HV.out.cells.1; have hv_1 := HV.out.cells.2.1; have hv_2 := HV.out.cells.2.2; have fv_0 := HV.out.free 0; have fv_1 := HV.out.free 1; have fv_2 := HV.out.free 2) | skip))))
      all_goals
        go_wp2_with fail
        go_meet
        refine ⟨_, aw, cw, rfl, rfl, ?_, ?_, ?_, ?_⟩
        · first | exact Lib.hid (Var.new wz d f (.slice aw M.length cw)) | exact Lib.hid (HV.out.set3 d f (.slice aw M.length cw))
        · first | exact Lib.hid (OW.out.below (alloc_below _ _)) | exact Lib.hid (Own.aside3 OW.out HV.out)
        · first | exact Lib.hid (HWZ.out.alloc HWZ.out.size _) | exact Lib.hid (below_set3 HWZ.out (by first | exact hbx.size | exact hby.size | exact Nat.le_refl _ | (simp; done) | omega))
        · first | exact HWZ.out.size | exact hbx.size | exact hby.size | exact Nat.le_refl _ | (simp; done) | omega
    case rest =>
      obtain ⟨bw, aw, cw, rfl, rfl, hv, ho, hb', hnw⟩ := hcut
      clear S0 HTO HTO2
      clear lv_0 lv_1 lv_2 lu_0 lu_1 lu_2
      have hb := hb'.out
      have hlw := hv.out.lt
      have Nw := Lib.hid ho.out.lt
      clear hb'
      generalize wc = w3 at *
      have LV := Lib.hid (LV.out.below hb)
      have LU := Lib.hid (LU.out.below hb)
      have HB := Lib.hid (HB.out.trans (hb.mono HB.out.size))
      have hs_w3 : w2.heap.size ≤ w3.heap.size := hb.size
      clear hb
      have VW := hv
      have Ow := ho
      clear hv ho
      obtain ⟨lv_0, lv_1, lv_2⟩ := LV.out.cells
      go_wp2_with fail
      clear lv_0 lv_1 lv_2
      refine (to_card d f a l.length c l _ rfl HLEN.out (HR.out.since (Nat.le_refl _) HB.out)).mono ?_
      rintro e w4 ⟨ax, cx, rfl, hb, ho⟩
      have LV := Lib.hid (LV.out.below hb)
      have LU := Lib.hid (LU.out.below hb)
      have VW := Lib.hid (VW.out.below hb)
      have Ow := Lib.hid (Ow.out.below hb)
      have HB := Lib.hid (HB.out.trans (hb.mono HB.out.size))
      have hs_w4 : w3.heap.size ≤ w4.heap.size := hb.size
      clear hb
      have Ox := Lib.hid ho
      have Nx := Lib.hid ho.lt
      clear ho
      go_upto_region 7 with (fail)
      have hv0 := Var.new w4 d f (.slice ax l.length cx)
      have hb := alloc_below w4 (.cells #[.int .i64 d, .int .i64 f, .slice ax l.length cx] 26)
      have LV := Lib.hid (LV.out.below hb)
      have LU := Lib.hid (LU.out.below hb)
      have VW := Lib.hid (VW.out.below hb)
      have Ow := Lib.hid (Ow.out.below hb)
      have Ox := Lib.hid (Ox.out.below hb)
      have HB := Lib.hid (HB.out.trans (hb.mono HB.out.size))
      have hs_w5 : w4.heap.size < (w4.alloc (.cells #[.int .i64 d, .int .i64 f, .slice ax l.length cx] 26)).heap.size := hv0.lt
      have VX := Lib.hid hv0
      clear hv0 hb
      generalize (w4.alloc (.cells #[.int .i64 d, .int .i64 f, .slice ax l.length cx] 26)) = w5 at *
      obtain ⟨vx_0, vx_1, vx_2⟩ := VX.out.cells
      obtain ⟨lu_0, lu_1, lu_2⟩ := LU.out.cells
      have S0 : w5.cell? ⟨w4.heap.size, 0, none⟩ = some (.int .i64 d) ∧ w5.cell? ⟨w4.heap.size, 1, none⟩ = some (.int .i64 f) ∧ w5.cell? ⟨w4.heap.size, 2, none⟩ = some (.slice ax l.length cx) ∧ w5.cell? ⟨w.heap.size + 1, 0, none⟩ = some (.int .i64 F) ∧ w5.cell? ⟨w.heap.size + 1, 1, none⟩ = some (.int .i64 L) ∧ w5.cell? ⟨w.heap.size + 1, 2, none⟩ = some (.int .i64 A) ∧ Below w5.heap.size w5 w5 := ⟨vx_0, vx_1, vx_2, lu_0, lu_1, lu_2, Below.refl _ _⟩
      have HTO := Lib.hid (fun (w' : World) (hb : Below w5.heap.size w5 w') => to_card d f a l.length c l w' rfl HLEN.out (HR.out.since (Nat.le_refl _) (HB.out.trans (hb.mono HB.out.size))))
      have HTO2 := Lib.hid (fun (w' : World) => to_box F L A w')
      have OX0 := Lib.hid (fun (w' : World) (hb : Below w5.heap.size w5 w') => Ox.out.below hb)
      go_cut [9, 10] (fun s6 s7 wx => ∃ (b6 : Nat) (aw : Option Addr) (cw : Nat), s6 = .pointer (some ⟨b6, 0, none⟩) ∧ s7 = .bool ok ∧ Hid (Var wx b6 d f (.slice aw M.length cw)) ∧ Hid (Own wx w5.heap.size (.slice aw M.length cw) M) ∧ Hid (Below w5.heap.size w5 wx) ∧ w5.heap.size ≤ b6)
      case first =>
        go_region_held3 (fun w' => w'.cell? ⟨w4.heap.size, 0, none⟩ = some (.int .i64 d) ∧ w'.cell? ⟨w4.heap.size, 1, none⟩ = some (.int .i64 f) ∧ w'.cell? ⟨w4.heap.size, 2, none⟩ = some (.slice ax l.length cx) ∧ w'.cell? ⟨w.heap.size + 1, 0, none⟩ = some (.int .i64 F) ∧ w'.cell? ⟨w.heap.size + 1, 1, none⟩ = some (.int .i64 L) ∧ w'.cell? ⟨w.heap.size + 1, 2, none⟩ = some (.int .i64 A) ∧ Below w5.heap.size w5 w')
          (first | with_reducible exact S0 | with_reducible exact eqs_drew S0 | with_reducible exact eqs_next (by assumption) hb | with_reducible exact eqs_drew (by assumption) | with_reducible assumption | with_reducible exact eqs_next (by assumption) (alloc_below _ _) | with_reducible exact six_of S0 (HWZ.out.alloc HWZ.out.size _) | with_reducible exact six_of S0 (((HWZ.out.setCell (by first | exact HWZ.out.size | exact hby.size | exact Nat.le_refl _ | (simp; done) | omega) _).setCell (by first | exact HWZ.out.size | exact hby.size | exact Nat.le_refl _ | (simp; done) | omega) _).setCell (by first | exact HWZ.out.size | exact hby.size | exact Nat.le_refl _ | (simp; done) | omega) _))
          ((first | (go_at_call_of 26 (Value.agg #[.int .i64 F, .int .i64 L, .int .i64 A]); refine (HTO2.out _).mono ?_; rintro e wy ⟨rfl, hb⟩; have hby : Below w5.heap.size w5 wy := Below.trans (eqs_below (by assumption)) (hb.mono (Below.size (eqs_below (by assumption)))); (first | (have HV := Lib.hid (HV.out.below hb)) | (have hv0 := Var.below (Var.new _ 0 0 (.slice none 0 0)) hb; have HV := Lib.hid hv0; clear hv0) | (have hv0 := Var.below (w := (w5.alloc (.cells #[.int .i64 0, .int .i64 0, .slice none 0 0] 26)).drew) (b := w5.heap.size) (Var.new w5 0 0 (.slice none 0 0)) hb; have HV := Lib.hid hv0; clear hv0) | skip)) | (go_at_call 20; refine (HIM.out _ _ _ _ (OX0.out _ (eqs_below (by assumption)))).mono ?_; rintro e wz ⟨aw, cw, rfl, hb, how⟩; have hbz : Below w5.heap.size w5 wz := Below.trans (eqs_below (by assumption)) (hb.mono (Below.size (eqs_below (by assumption)))); have HWZ := Lib.hid hbz; have OW := Lib.hid (how.mono (base2 := w5.heap.size) (Below.size (eqs_below (by assumption)))); clear how; (first | (have HV := Lib.hid (HV.out.below hb)) | (have hv0 := Var.below (Var.new _ 0 0 (.slice none 0 0)) hb; have HV := Lib.hid hv0; clear hv0) | (have hv0 := Var.below (w := (w5.alloc (.cells #[.int .i64 0, .int .i64 0, .slice none 0 0] 26)).drew) (b := w5.heap.size) (Var.new w5 0 0 (.slice none 0 0)) hb; have HV := Lib.hid hv0; clear hv0) | skip); (first | (have hv_0 := HV.out.cells.1; have hv_1 := HV.out.cells.2.1; have hv_2 := HV.out.cells.2.2; have fv_0 := HV.out.free 0; have fv_1 := HV.out.free 1; have fv_2 := HV.out.free 2) | skip))))
        all_goals
          go_wp2_with fail
          go_meet
          refine ⟨_, aw, cw, rfl, rfl, ?_, ?_, ?_, ?_⟩
          · first | exact Lib.hid (Var.new wz d f (.slice aw M.length cw)) | exact Lib.hid (HV.out.set3 d f (.slice aw M.length cw))
          · first | exact Lib.hid (OW.out.below (alloc_below _ _)) | exact Lib.hid (Own.aside3 OW.out HV.out)
          · first | exact Lib.hid (HWZ.out.alloc HWZ.out.size _) | exact Lib.hid (below_set3 HWZ.out (by first | exact hby.size | exact Nat.le_refl _ | (simp; done) | omega))
          · first | exact HWZ.out.size | exact hby.size | exact Nat.le_refl _ | (simp; done) | omega
      case rest =>
        obtain ⟨bg, ag, cg, rfl, rfl, hv, ho, hb', hng⟩ := hcut
        clear S0 HTO HTO2 OX0
        clear vx_0 vx_1 vx_2 lu_0 lu_1 lu_2
        have hb := hb'.out
        have hlg := hv.out.lt
        have Ng := Lib.hid ho.out.lt
        clear hb'
        generalize wc = w6 at *
        have LV := Lib.hid (LV.out.below hb)
        have LU := Lib.hid (LU.out.below hb)
        have VW := Lib.hid (VW.out.below hb)
        have Ow := Lib.hid (Ow.out.below hb)
        have Ox := Lib.hid (Ox.out.below hb)
        have VX := Lib.hid (VX.out.below hb)
        have HB := Lib.hid (HB.out.trans (hb.mono HB.out.size))
        have hs_w6 : w5.heap.size ≤ w6.heap.size := hb.size
        clear hb
        have VG := hv
        have Og := ho
        clear hv ho
        obtain ⟨vg_0, vg_1, vg_2⟩ := VG.out.cells
        obtain ⟨vw_0, vw_1, vw_2⟩ := VW.out.cells
        go_wp2_with fail
        clear vg_0 vg_1 vg_2 vw_0 vw_1 vw_2
        refine (eq_card d f M.length cg cw ag aw M rfl hm2 _ Og.out.row2.2 Ow.out.row2.2).mono ?_
        rintro e w7 ⟨rfl, hb⟩
        have LV := Lib.hid (LV.out.below hb)
        have LU := Lib.hid (LU.out.below hb)
        have VW := Lib.hid (VW.out.below hb)
        have Ow := Lib.hid (Ow.out.below hb)
        have Ox := Lib.hid (Ox.out.below hb)
        have VX := Lib.hid (VX.out.below hb)
        have VG := Lib.hid (VG.out.below hb)
        have Og := Lib.hid (Og.out.below hb)
        have HB := Lib.hid (HB.out.trans (hb.mono HB.out.size))
        have hs_w7 : w6.heap.size ≤ w7.heap.size := hb.size
        clear hb
        obtain ⟨vx_0, vx_1, vx_2⟩ := VX.out.cells
        obtain ⟨lv_0, lv_1, lv_2⟩ := LV.out.cells
        go_wp2_with fail
        have S0 : w7.cell? ⟨w4.heap.size, 0, none⟩ = some (.int .i64 d) ∧ w7.cell? ⟨w4.heap.size, 1, none⟩ = some (.int .i64 f) ∧ w7.cell? ⟨w4.heap.size, 2, none⟩ = some (.slice ax l.length cx) ∧ w7.cell? ⟨w.heap.size, 0, none⟩ = some (.int .i64 d) ∧ w7.cell? ⟨w.heap.size, 1, none⟩ = some (.int .i64 f) ∧ w7.cell? ⟨w.heap.size, 2, none⟩ = some (.slice a l.length c) ∧ Below w7.heap.size w7 w7 := ⟨vx_0, vx_1, vx_2, lv_0, lv_1, lv_2, Below.refl _ _⟩
        have HTO := Lib.hid (fun (w' : World) (hb : Below w7.heap.size w7 w') => to_card d f a l.length c l w' rfl HLEN.out (HR.out.since (Nat.le_refl _) (HB.out.trans (hb.mono HB.out.size))))
        have HTO2 := Lib.hid (fun (w' : World) => to_box F L A w')
        have HXR := Lib.hid (fun (w' : World) (hb : Below w7.heap.size w7 w') => (Ox.out.below hb).row2.2)
        go_region_held3 (fun w' => w'.cell? ⟨w4.heap.size, 0, none⟩ = some (.int .i64 d) ∧ w'.cell? ⟨w4.heap.size, 1, none⟩ = some (.int .i64 f) ∧ w'.cell? ⟨w4.heap.size, 2, none⟩ = some (.slice ax l.length cx) ∧ w'.cell? ⟨w.heap.size, 0, none⟩ = some (.int .i64 d) ∧ w'.cell? ⟨w.heap.size, 1, none⟩ = some (.int .i64 f) ∧ w'.cell? ⟨w.heap.size, 2, none⟩ = some (.slice a l.length c) ∧ Below w7.heap.size w7 w')
          (first | exact S0 | exact eqs_drew S0 | exact eqs_next (by assumption) hb | exact eqs_next (by assumption) hb2 | exact eqs_next (by assumption) hb3 | exact eqs_drew (by assumption) | assumption)
          ((first | (go_at_call 25; refine (HTO.out _ (eqs_below (by assumption))).mono ?_; rintro e wy ⟨at_, ct_, rfl, hb, hoy⟩; have OY := Lib.hid hoy; clear hoy) | (go_at_call 27; refine (eq_card d f l.length cx ct_ ax at_ l rfl HLEN.out _ (HXR.out _ (eqs_below (by assumption))) (OY.out.row2.2)).mono ?_; rintro e wz1 ⟨rfl, hb2⟩)))
        have hbz : Below w7.heap.size w7 wz1 := eqs_below (w' := wz1) (by assumption)
        clear S0 HTO HTO2 HXR hb hb2 OY
        clear vx_0 vx_1 vx_2 lv_0 lv_1 lv_2
        have LV := Lib.hid (LV.out.below hbz)
        have LU := Lib.hid (LU.out.below hbz)
        have VW := Lib.hid (VW.out.below hbz)
        have Ow := Lib.hid (Ow.out.below hbz)
        have Ox := Lib.hid (Ox.out.below hbz)
        have VX := Lib.hid (VX.out.below hbz)
        have VG := Lib.hid (VG.out.below hbz)
        have Og := Lib.hid (Og.out.below hbz)
        have HB := Lib.hid (HB.out.trans (hbz.mono HB.out.size))
        have hs_wz1 : w7.heap.size ≤ wz1.heap.size := hbz.size
        clear hbz
        obtain ⟨vx_0, vx_1, vx_2⟩ := VX.out.cells
        go_wp2_with fail
        clear vx_0 vx_1 vx_2
        refine (mark_card d f _ ax cx l HLEN.out _ Ox.out).mono ?_
        rintro e w8 ⟨rfl, hmk, hg⟩
        have LV := Lib.hid (LV.out.mark hg (fun k e => by have h1 := Nx.out k e; omega))
        have LU := Lib.hid (LU.out.mark hg (fun k e => by have h1 := Nx.out k e; omega))
        have VW := Lib.hid (VW.out.mark hg (fun k e => by have h1 := Nx.out k e; first | omega | exact fun e2 => ne_var Ox.out VW.out (by rw [e2]; exact e)))
        have Ow := Lib.hid (Own.mark Ow.out hg (fun k k2 e e2 => by have h1 := Nx.out k2 e2; have h2 := Nw.out k e; omega))
        have VX := Lib.hid (VX.out.mark hg (fun k e => by have h1 := Nx.out k e; first | omega | exact fun e2 => ne_var Ox.out VX.out (by rw [e2]; exact e)))
        have VG := Lib.hid (VG.out.mark hg (fun k e => by have h1 := Nx.out k e; first | omega | exact fun e2 => ne_var Ox.out VG.out (by rw [e2]; exact e)))
        have Og := Lib.hid (Own.mark Og.out hg (fun k k2 e e2 => by have h1 := Nx.out k2 e2; have h2 := Ng.out k e; omega))
        have HB := Lib.hid (HB.out.grown hg HB.out.size (fun k e => by have h1 := Nx.out k e; omega))
        have hs_w8 : wz1.heap.size ≤ w8.heap.size := hg.size
        have Ox := Lib.hid hmk
        clear hmk hg
        obtain ⟨vg_0, vg_1, vg_2⟩ := VG.out.cells
        obtain ⟨vw_0, vw_1, vw_2⟩ := VW.out.cells
        go_wp2_with fail
        clear vg_0 vg_1 vg_2 vw_0 vw_1 vw_2
        refine (eq_card d f M.length cg cw ag aw M rfl hm2 _ Og.out.row2.2 Ow.out.row2.2).mono ?_
        rintro e w9 ⟨rfl, hb⟩
        have LV := Lib.hid (LV.out.below hb)
        have LU := Lib.hid (LU.out.below hb)
        have VW := Lib.hid (VW.out.below hb)
        have Ow := Lib.hid (Ow.out.below hb)
        have Ox := Lib.hid (Ox.out.below hb)
        have VX := Lib.hid (VX.out.below hb)
        have VG := Lib.hid (VG.out.below hb)
        have Og := Lib.hid (Og.out.below hb)
        have HB := Lib.hid (HB.out.trans (hb.mono HB.out.size))
        have hs_w9 : w8.heap.size ≤ w9.heap.size := hb.size
        clear hb
        obtain ⟨vg_0, vg_1, vg_2⟩ := VG.out.cells
        go_wp2_with fail
        clear vg_0 vg_1 vg_2
        refine (mark_card d f _ ag cg M hm2 _ Og.out).mono ?_
        rintro e w10 ⟨rfl, hmk, hg⟩
        have LV := Lib.hid (LV.out.mark hg (fun k e => by have h1 := Ng.out k e; omega))
        have LU := Lib.hid (LU.out.mark hg (fun k e => by have h1 := Ng.out k e; omega))
        have VW := Lib.hid (VW.out.mark hg (fun k e => by have h1 := Ng.out k e; first | omega | exact fun e2 => ne_var Og.out VW.out (by rw [e2]; exact e)))
        have Ow := Lib.hid (Own.mark Ow.out hg (fun k k2 e e2 => by have h1 := Ng.out k2 e2; have h2 := Nw.out k e; omega))
        have Ox := Lib.hid (Own.mark Ox.out hg (fun k k2 e e2 => by have h1 := Ng.out k2 e2; have h2 := Nx.out k e; omega))
        have VX := Lib.hid (VX.out.mark hg (fun k e => by have h1 := Ng.out k e; first | omega | exact fun e2 => ne_var Og.out VX.out (by rw [e2]; exact e)))
        have VG := Lib.hid (VG.out.mark hg (fun k e => by have h1 := Ng.out k e; first | omega | exact fun e2 => ne_var Og.out VG.out (by rw [e2]; exact e)))
        have HB := Lib.hid (HB.out.grown hg HB.out.size (fun k e => by have h1 := Ng.out k e; omega))
        have hs_w10 : w9.heap.size ≤ w10.heap.size := hg.size
        have Og := Lib.hid hmk
        clear hmk hg
        obtain ⟨vg_0, vg_1, vg_2⟩ := VG.out.cells
        go_wp2_with fail
        clear vg_0 vg_1 vg_2
        refine (held_card d f _ ag M.length cg hm2 _ Og.out).mono ?_
        rintro e w11 ⟨rfl, hb⟩
        have LV := Lib.hid (LV.out.below hb)
        have LU := Lib.hid (LU.out.below hb)
        have VW := Lib.hid (VW.out.below hb)
        have Ow := Lib.hid (Ow.out.below hb)
        have Ox := Lib.hid (Ox.out.below hb)
        have VX := Lib.hid (VX.out.below hb)
        have VG := Lib.hid (VG.out.below hb)
        have Og := Lib.hid (Og.out.below hb)
        have HB := Lib.hid (HB.out.trans (hb.mono HB.out.size))
        have hs_w11 : w10.heap.size ≤ w11.heap.size := hb.size
        clear hb
        go_upto_region 24 with (fail)
        obtain ⟨lv_0, lv_1, lv_2⟩ := LV.out.cells
        obtain ⟨lu_0, lu_1, lu_2⟩ := LU.out.cells
        have S0 : w11.cell? ⟨w.heap.size, 0, none⟩ = some (.int .i64 d) ∧ w11.cell? ⟨w.heap.size, 1, none⟩ = some (.int .i64 f) ∧ w11.cell? ⟨w.heap.size, 2, none⟩ = some (.slice a l.length c) ∧ w11.cell? ⟨w.heap.size + 1, 0, none⟩ = some (.int .i64 F) ∧ w11.cell? ⟨w.heap.size + 1, 1, none⟩ = some (.int .i64 L) ∧ w11.cell? ⟨w.heap.size + 1, 2, none⟩ = some (.int .i64 A) ∧ Below w11.heap.size w11 w11 := ⟨lv_0, lv_1, lv_2, lu_0, lu_1, lu_2, Below.refl _ _⟩
        have HTO := Lib.hid (fun (w' : World) (hb : Below w11.heap.size w11 w') => to_card d f a l.length c l w' rfl HLEN.out (HR.out.since (Nat.le_refl _) (HB.out.trans (hb.mono HB.out.size))))
        have HTO2 := Lib.hid (fun (w' : World) => to_box F L A w')
        go_cut [14, 15] (fun s6 s7 wx => ∃ (b6 : Nat) (aw : Option Addr) (cw : Nat), s6 = .pointer (some ⟨b6, 0, none⟩) ∧ s7 = .bool ok ∧ Hid (Var wx b6 d f (.slice aw M.length cw)) ∧ Hid (Own wx w11.heap.size (.slice aw M.length cw) M) ∧ Hid (Below w11.heap.size w11 wx) ∧ w11.heap.size ≤ b6)
        case first =>
          go_region_held3 (fun w' => w'.cell? ⟨w.heap.size, 0, none⟩ = some (.int .i64 d) ∧ w'.cell? ⟨w.heap.size, 1, none⟩ = some (.int .i64 f) ∧ w'.cell? ⟨w.heap.size, 2, none⟩ = some (.slice a l.length c) ∧ w'.cell? ⟨w.heap.size + 1, 0, none⟩ = some (.int .i64 F) ∧ w'.cell? ⟨w.heap.size + 1, 1, none⟩ = some (.int .i64 L) ∧ w'.cell? ⟨w.heap.size + 1, 2, none⟩ = some (.int .i64 A) ∧ Below w11.heap.size w11 w')
            (first | with_reducible exact S0 | with_reducible exact eqs_drew S0 | with_reducible exact eqs_next (by assumption) hb | with_reducible exact eqs_drew (by assumption) | with_reducible assumption | with_reducible exact eqs_next (by assumption) (alloc_below _ _) | with_reducible exact six_of S0 (HWZ.out.alloc HWZ.out.size _) | with_reducible exact six_of S0 (((HWZ.out.setCell (by first | exact HWZ.out.size | exact hby.size | exact hbx.size | exact Nat.le_refl _ | (simp; done) | omega) _).setCell (by first | exact HWZ.out.size | exact hby.size | exact hbx.size | exact Nat.le_refl _ | (simp; done) | omega) _).setCell (by first | exact HWZ.out.size | exact hby.size | exact hbx.size | exact Nat.le_refl _ | (simp; done) | omega) _))
            ((first | (go_at_call_of 25 (Value.agg #[.int .i64 d, .int .i64 f, .slice a l.length c]); refine (HTO.out _ (eqs_below (by assumption))).mono ?_; rintro e wx ⟨as_, cs_, rfl, hb, hox⟩; have hbx : Below w11.heap.size w11 wx := Below.trans (eqs_below (by assumption)) (hb.mono (Below.size (eqs_below (by assumption)))); have OX := Lib.hid hox; clear hox; (first | (have HV := Lib.hid (HV.out.below hb)) | (have hv0 := Var.below (Var.new _ 0 0 (.slice none 0 0)) hb; have HV := Lib.hid hv0; clear hv0) | (have hv0 := Var.below (w := (w11.alloc (.cells #[.int .i64 0, .int .i64 0, .slice none 0 0] 26)).drew) (b := w11.heap.size) (Var.new w11 0 0 (.slice none 0 0)) hb; have HV := Lib.hid hv0; clear hv0) | skip)) | (go_at_call_of 26 (Value.agg #[.int .i64 F, .int .i64 L, .int .i64 A]); refine (HTO2.out _).mono ?_; rintro e wy ⟨rfl, hb⟩; have hby : Below w11.heap.size w11 wy := Below.trans (eqs_below (by assumption)) (hb.mono (Below.size (eqs_below (by assumption)))); (first | (have OX := Lib.hid (OX.out.below hb)) | (have OX := Lib.hid ((OX.out.below (alloc_below _ _)).below hb))); (first | (have HV := Lib.hid (HV.out.below hb)) | (have hv0 := Var.below (Var.new _ 0 0 (.slice none 0 0)) hb; have HV := Lib.hid hv0; clear hv0) | (have hv0 := Var.below (w := (w11.alloc (.cells #[.int .i64 0, .int .i64 0, .slice none 0 0] 26)).drew) (b := w11.heap.size) (Var.new w11 0 0 (.slice none 0 0)) hb; have HV := Lib.hid hv0; clear hv0) | skip)) | (go_at_call 20; refine (HIM.out _ _ _ _ (by first | exact OX.out | exact OX.out.below (alloc_below _ _))).mono ?_; rintro e wz ⟨aw, cw, rfl, hb, how⟩; have hbz : Below w11.heap.size w11 wz := Below.trans (eqs_below (by assumption)) (hb.mono (Below.size (eqs_below (by assumption)))); have HWZ := Lib.hid hbz; have OW := Lib.hid (how.mono (base2 := w11.heap.size) (Below.size (eqs_below (by assumption)))); clear how; (first | (have HV := Lib.hid (HV.out.below hb)) | (have hv0 := Var.below (Var.new _ 0 0 (.slice none 0 0)) hb; have HV := Lib.hid hv0; clear hv0) | (have hv0 := Var.below (w := (w11.alloc (.cells #[.int .i64 0, .int .i64 0, .slice none 0 0] 26)).drew) (b := w11.heap.size) (Var.new w11 0 0 (.slice none 0 0)) hb; have HV := Lib.hid hv0; clear hv0) | skip); (first | (have hv_0 := HV.out.cells.1; have hv_1 := HV.out.cells.2.1; have hv_2 := HV.out.cells.2.2; have fv_0 := HV.out.free 0; have fv_1 := HV.out.free 1; have fv_2 := HV.out.free 2) | skip))))
          all_goals
            go_wp2_with fail
            go_meet
            refine ⟨_, aw, cw, rfl, rfl, ?_, ?_, ?_, ?_⟩
            · first | exact Lib.hid (Var.new wz d f (.slice aw M.length cw)) | exact Lib.hid (HV.out.set3 d f (.slice aw M.length cw))
            · first | exact Lib.hid (OW.out.below (alloc_below _ _)) | exact Lib.hid (Own.aside3 OW.out HV.out)
            · first | exact Lib.hid (HWZ.out.alloc HWZ.out.size _) | exact Lib.hid (below_set3 HWZ.out (by first | exact hbx.size | exact hby.size | exact Nat.le_refl _ | (simp; done) | omega))
            · first | exact HWZ.out.size | exact hbx.size | exact hby.size | exact Nat.le_refl _ | (simp; done) | omega
        case rest =>
          obtain ⟨bh, ah, ch, rfl, rfl, hv, ho, hb', hnh⟩ := hcut
          clear S0 HTO HTO2
          clear lv_0 lv_1 lv_2 lu_0 lu_1 lu_2
          have hb := hb'.out
          have hlh := hv.out.lt
          have Nh := Lib.hid ho.out.lt
          clear hb'
          generalize wc = w12 at *
          have LV := Lib.hid (LV.out.below hb)
          have LU := Lib.hid (LU.out.below hb)
          have VW := Lib.hid (VW.out.below hb)
          have Ow := Lib.hid (Ow.out.below hb)
          have Ox := Lib.hid (Ox.out.below hb)
          have VX := Lib.hid (VX.out.below hb)
          have VG := Lib.hid (VG.out.below hb)
          have Og := Lib.hid (Og.out.below hb)
          have HB := Lib.hid (HB.out.trans (hb.mono HB.out.size))
          have hs_w12 : w11.heap.size ≤ w12.heap.size := hb.size
          clear hb
          have VH := hv
          have Oh := ho
          clear hv ho
          obtain ⟨vw_0, vw_1, vw_2⟩ := VW.out.cells
          obtain ⟨vh_0, vh_1, vh_2⟩ := VH.out.cells
          go_wp2_with fail
          clear vw_0 vw_1 vw_2 vh_0 vh_1 vh_2
          refine (eq_card d f M.length ch cw ah aw M rfl hm2 _ Oh.out.row2.2 Ow.out.row2.2).mono ?_
          rintro e w13 ⟨rfl, hb⟩
          have LV := Lib.hid (LV.out.below hb)
          have LU := Lib.hid (LU.out.below hb)
          have VW := Lib.hid (VW.out.below hb)
          have Ow := Lib.hid (Ow.out.below hb)
          have Ox := Lib.hid (Ox.out.below hb)
          have VX := Lib.hid (VX.out.below hb)
          have VG := Lib.hid (VG.out.below hb)
          have Og := Lib.hid (Og.out.below hb)
          have VH := Lib.hid (VH.out.below hb)
          have Oh := Lib.hid (Oh.out.below hb)
          have HB := Lib.hid (HB.out.trans (hb.mono HB.out.size))
          have hs_w13 : w12.heap.size ≤ w13.heap.size := hb.size
          clear hb
          obtain ⟨vg_0, vg_1, vg_2⟩ := VG.out.cells
          go_wp2_with fail
          clear vg_0 vg_1 vg_2
          refine (held_card d f _ ag M.length cg hm2 _ Og.out).mono ?_
          rintro e w14 ⟨rfl, hb⟩
          have LV := Lib.hid (LV.out.below hb)
          have LU := Lib.hid (LU.out.below hb)
          have VW := Lib.hid (VW.out.below hb)
          have Ow := Lib.hid (Ow.out.below hb)
          have Ox := Lib.hid (Ox.out.below hb)
          have VX := Lib.hid (VX.out.below hb)
          have VG := Lib.hid (VG.out.below hb)
          have Og := Lib.hid (Og.out.below hb)
          have VH := Lib.hid (VH.out.below hb)
          have Oh := Lib.hid (Oh.out.below hb)
          have HB := Lib.hid (HB.out.trans (hb.mono HB.out.size))
          have hs_w14 : w13.heap.size ≤ w14.heap.size := hb.size
          clear hb
          go_wp2
          go_ret
          exact ⟨rfl, HB.out⟩
end Go.Proofs.Ytekmladindlmoaa.Box
