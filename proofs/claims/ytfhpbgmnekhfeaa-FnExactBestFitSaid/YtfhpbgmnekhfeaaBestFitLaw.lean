/- The law of BestFit: the walk (printed by wip/gen_facelaw.py). -/
import Derived.Test.YtfhpbgmnekhfeaaCardOkLaw
import Derived.Test.YtfhpbgmnekhfeaaSheetSpec
import Derived.Test.YtfhpbgmnekhfeaaSheetImpl
namespace Go.Proofs.Ytfhpbgmnekhfeaa.Face
open Go.ChangeShapes Go.WideShapes Go.ChangeAt Go.RowKit
open Go.Proofs.Ytfhpbgmnekhfeaa.Strip Go.Proofs.Ytfhpbgmnekhfeaa.Strs Go.Proofs.Ytfhpbgmnekhfeaa.Card Go.Proofs.Ytfhpbgmnekhfeaa.Sheet
set_option linter.unusedVariables false

set_option maxRecDepth 100000 in
set_option maxHeartbeats 8000000 in
theorem exactBestFit (d f : Int) (a : Option Addr) (c : Nat) (l : List ByteArray) (u : Int) (v : Int) (w : World) (hn : l.length ≤ maxLen) (hz : ∀ s ∈ l, s.size ≤ maxLen) (hr : ARow w a l) :
    Calls Try.prog 6 #[.int .i64 u, .int .i64 v, .agg #[.int .i64 d, .int .i64 f, .slice a l.length c]] w fun e w' => e = .returned (.bool true) ∧ Below w.heap.size w w' := by
  have HSZ := Lib.hid (fun (w' : World) (hr : ARow w' a l) => sz_card 1048576 (by omega) (by omega) d f a l.length c l w' rfl hn hz hr)
  have HR := Lib.hid hr
  have HB := Lib.hid (Below.refl w.heap.size w)
  have hnx := hn
  unfold maxLen at hnx
  by_cases hneg : szV 1048576 l < 0
  · rw [sz_big hneg] at HSZ
    clear hr hz hneg
    go_enter Try.func6, Try.ntmps6
    go_wp2_with fail
    refine (HSZ.out _ (HR.out.below (alloc_below _ _))).mono ?_
    rintro e w1 ⟨rfl, hb⟩
    go_wp2
    go_ret
    exact ⟨rfl, (alloc_below w _).trans (hb.mono (by simp))⟩
  · obtain ⟨g1, g2, g3, g4⟩ := szV_ok hneg
    have HLEN := Lib.hid (show l.length ≤ 1048576 by omega)
    have HSIZES := Lib.hid (show ∀ s ∈ l, s.size ≤ 1048576 from fun s hs => by have := g2 s hs; omega)
    generalize szV 1048576 l = r at *
    have HSP := Lib.hid (fun (w' : World) (base : Nat) (a' : Option Addr) (c' : Nat) (h : Own w' base (.slice a' l.length c') l) => best_spec d f a' l.length c' l u v w' rfl HLEN.out HSIZES.out h.row2.2)
    have HIM := Lib.hid (fun (w' : World) (base : Nat) (a' : Option Addr) (c' : Nat) (h : Own w' base (.slice a' l.length c') l) => best_impl d f a' l.length c' l u v w' rfl HLEN.out HSIZES.out h.row2.2)
    generalize bestV d f l u v = r0 at *
    have hq_r0 : (r0 != r0) = false := by simp
    have hlx : (l.length : Int) ≤ 1048576 := by omega
    clear hr hz g1 g2 hneg
    go_enter Try.func6, Try.ntmps6
    go_wp2_with fail
    have LV := Lib.hid (LVar.new w d f (.slice a l.length c))
    have HB := Lib.hid (HB.out.trans (alloc_below w (.cells #[.int .i64 d, .int .i64 f, .slice a l.length c] 37)))
    generalize (w.alloc (.cells #[.int .i64 d, .int .i64 f, .slice a l.length c] 37)) = w1 at *
    refine (HSZ.out _ (HR.out.since (Nat.le_refl _) HB.out)).mono ?_
    rintro e w2 ⟨rfl, hb⟩
    have LV := Lib.hid (LV.out.below hb)
    have HB := Lib.hid (HB.out.trans (hb.mono HB.out.size))
    clear hb
    obtain ⟨lv_0, lv_1, lv_2⟩ := LV.out.cells
    go_wp2_with fail
    clear lv_0 lv_1 lv_2
    refine (to_card d f a l.length c l _ rfl HLEN.out (HR.out.since (Nat.le_refl _) HB.out)).mono ?_
    rintro e w3 ⟨a3, c3, rfl, hb, ho⟩
    have LV := Lib.hid (LV.out.below hb)
    have HB := Lib.hid (HB.out.trans (hb.mono HB.out.size))
    have O3 := Lib.hid ho
    clear hb ho
    go_wp2_with fail
    refine (HSP.out _ _ _ _ O3.out).mono ?_
    rintro e w4 ⟨rfl, hb⟩
    have LV := Lib.hid (LV.out.below hb)
    have HB := Lib.hid (HB.out.trans (hb.mono HB.out.size))
    clear hb O3
    obtain ⟨lv_0, lv_1, lv_2⟩ := LV.out.cells
    go_wp2_with fail
    clear lv_0 lv_1 lv_2
    refine (to_card d f a l.length c l _ rfl HLEN.out (HR.out.since (Nat.le_refl _) HB.out)).mono ?_
    rintro e w5 ⟨a5, c5, rfl, hb, ho⟩
    have LV := Lib.hid (LV.out.below hb)
    have HB := Lib.hid (HB.out.trans (hb.mono HB.out.size))
    have O5 := Lib.hid ho
    clear hb ho
    go_wp2_with fail
    have VX := Lib.hid (Var.new w5 d f (.slice a5 l.length c5))
    have hb := alloc_below w5 (.cells #[.int .i64 d, .int .i64 f, .slice a5 l.length c5] 26)
    have LV := Lib.hid (LV.out.below hb)
    have O5 := Lib.hid (O5.out.below hb)
    have HB := Lib.hid (HB.out.trans (hb.mono HB.out.size))
    clear hb
    generalize (w5.alloc (.cells #[.int .i64 d, .int .i64 f, .slice a5 l.length c5] 26)) = w6 at *
    refine (HIM.out _ _ _ _ O5.out).mono ?_
    rintro e w7 ⟨rfl, hb⟩
    have LV := Lib.hid (LV.out.below hb)
    have VX := Lib.hid (VX.out.below hb)
    have O5 := Lib.hid (O5.out.below hb)
    have HB := Lib.hid (HB.out.trans (hb.mono HB.out.size))
    clear hb
    obtain ⟨lv_0, lv_1, lv_2⟩ := LV.out.cells
    obtain ⟨vx_0, vx_1, vx_2⟩ := VX.out.cells
    go_wp2_with fail
    have S0 : w7.cell? ⟨w5.heap.size, 0, none⟩ = some (.int .i64 d) ∧ w7.cell? ⟨w5.heap.size, 1, none⟩ = some (.int .i64 f) ∧ w7.cell? ⟨w5.heap.size, 2, none⟩ = some (.slice a5 l.length c5) ∧ w7.cell? ⟨w.heap.size, 0, none⟩ = some (.int .i64 d) ∧ w7.cell? ⟨w.heap.size, 1, none⟩ = some (.int .i64 f) ∧ w7.cell? ⟨w.heap.size, 2, none⟩ = some (.slice a l.length c) ∧ Below w7.heap.size w7 w7 := ⟨vx_0, vx_1, vx_2, lv_0, lv_1, lv_2, Below.refl _ _⟩
    have HXR := Lib.hid (fun (w' : World) (hb : Below w7.heap.size w7 w') => (O5.out.below hb).row2.2)
    have HTO := Lib.hid (fun (w' : World) (hb : Below w7.heap.size w7 w') => to_card d f a l.length c l w' rfl HLEN.out (HR.out.since (Nat.le_refl _) (HB.out.trans (hb.mono HB.out.size))))
    go_region_held3 (fun w' => w'.cell? ⟨w5.heap.size, 0, none⟩ = some (.int .i64 d) ∧ w'.cell? ⟨w5.heap.size, 1, none⟩ = some (.int .i64 f) ∧ w'.cell? ⟨w5.heap.size, 2, none⟩ = some (.slice a5 l.length c5) ∧ w'.cell? ⟨w.heap.size, 0, none⟩ = some (.int .i64 d) ∧ w'.cell? ⟨w.heap.size, 1, none⟩ = some (.int .i64 f) ∧ w'.cell? ⟨w.heap.size, 2, none⟩ = some (.slice a l.length c) ∧ Below w7.heap.size w7 w')
      (first | exact S0 | exact eqs_drew S0 | exact eqs_next (by assumption) hb | exact eqs_next (by assumption) hb2 | exact eqs_drew (by assumption) | assumption)
      ((first | (go_at_call 20; refine (HTO.out _ (eqs_below (by assumption))).mono ?_; rintro e wy ⟨ay, cy, rfl, hb, hoy⟩; have OY := Lib.hid hoy; clear hoy) | (go_at_call 21; refine (eq_card d f l.length c5 cy a5 ay l rfl HLEN.out _ (HXR.out _ (eqs_below (by assumption))) (OY.out.row2.2)).mono ?_; rintro e wz ⟨rfl, hb2⟩)))
    have hbz : Below w7.heap.size w7 wz := eqs_below (w' := wz) (by assumption)
    go_wp2
    go_ret
    exact ⟨rfl, HB.out.trans (hbz.mono HB.out.size)⟩
end Go.Proofs.Ytfhpbgmnekhfeaa.Face
