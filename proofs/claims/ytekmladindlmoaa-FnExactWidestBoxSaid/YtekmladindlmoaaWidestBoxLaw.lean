/- The law of WidestBox: the walk (printed by wip/gen_widelaw.py). -/
import Derived.Test.YtekmladindlmoaaBoxLaw
import Derived.Test.YtekmladindlmoaaBoxWideSpec
import Derived.Deep.RegionHeld3
namespace Go.Proofs.Ytekmladindlmoaa.Box
open Go.ChangeShapes Go.WideShapes Go.ChangeAt Go.RowKit
open Go.Proofs.Ytekmladindlmoaa.Strip Go.Proofs.Ytekmladindlmoaa.Strs Go.Proofs.Ytekmladindlmoaa.Card
set_option linter.unusedVariables false

set_option maxRecDepth 100000 in
set_option maxHeartbeats 16000000 in
theorem exactWidestBox (d f : Int) (a : Option Addr) (c : Nat) (l : List ByteArray) (k A : Int) (w : World) (hn : l.length ≤ maxLen) (hz : ∀ s ∈ l, s.size ≤ maxLen) (hr : ARow w a l) (hA : (Lit.int .i64 A).wf = true) :
    Calls Try.prog 9 #[.agg #[.int .i64 d, .int .i64 f, .slice a l.length c], .int .i64 k, .int .i64 A] w fun e w' => e = .returned (.bool true) ∧ Below w.heap.size w w' := by
  have HSZ := Lib.hid (fun (w' : World) (hr : ARow w' a l) => sz_card 1048576 (by omega) (by omega) d f a l.length c l w' rfl hn hz hr)
  have HR := Lib.hid hr
  have HB := Lib.hid (Below.refl w.heap.size w)
  obtain ⟨hA0, hA1⟩ := i64_bounds hA
  clear hA
  have hnx := hn
  unfold maxLen at hnx
  by_cases hneg : szV 1048576 l < 0
  · rw [sz_big hneg] at HSZ
    clear hr hz hneg
    go_enter Try.func9, Try.ntmps9
    go_wp2_with fail
    refine (HSZ.out _ (HR.out.below (alloc_below _ _))).mono ?_
    rintro e w1 ⟨rfl, hb⟩
    go_wp2
    go_ret
    exact ⟨rfl, (alloc_below w _).trans (hb.mono (by simp))⟩
  · obtain ⟨g1, g2, g3, g4⟩ := szV_ok hneg
    have HLEN := Lib.hid (show l.length ≤ 1048576 by omega)
    have HZ1 := Lib.hid (show ∀ s ∈ l, s.size ≤ 1048576 from fun s hs => by have := g2 s hs; omega)
    clear g2
    generalize szV 1048576 l = r at *
    clear g1 hneg hz hr
    have hsp := fun (w' : World) (x : Nat) (a' : Option Addr) (c' : Nat) (h : Own w' x (.slice a' l.length c') l) => wide_spec d f k A x l.length c' a' l w' HLEN.out h HZ1.out hA0 hA1
    have him := fun (w' : World) (x : Nat) (a' : Option Addr) (c' : Nat) (h : Own w' x (.slice a' l.length c') l) => wide_impl d f k A x l.length c' a' l w' HLEN.out h HZ1.out hA0 hA1
    unfold GaveBox at hsp him
    generalize wideB d f l k A = q at *
    obtain ⟨x, y, z⟩ := q
    simp only at hsp him
    generalize boxB 100 d f l k k A = ok at *
    have HSP := Lib.hid hsp
    have HIM := Lib.hid him
    clear hsp him
    have hok : (ok != ok) = false := by simp
    have hl0 : (0 : Int) ≤ (l.length : Int) := Int.natCast_nonneg _
    have hl1 : (l.length : Int) ≤ 1048576 := by have := HLEN.out; omega
    go_enter Try.func9, Try.ntmps9
    go_wp2_with fail
    have LV := Lib.hid (LVar.new w d f (.slice a l.length c))
    have hs_w1 : w.heap.size < (w.alloc (.cells #[.int .i64 d, .int .i64 f, .slice a l.length c] 45)).heap.size := LV.out.lt
    have HB := Lib.hid (HB.out.alloc HB.out.size (.cells #[.int .i64 d, .int .i64 f, .slice a l.length c] 45))
    generalize (w.alloc (.cells #[.int .i64 d, .int .i64 f, .slice a l.length c] 45)) = w1 at *
    refine (HSZ.out _ (HR.out.since (Nat.le_refl _) HB.out)).mono ?_
    rintro e w2 ⟨rfl, hb⟩
    have LV := Lib.hid (LV.out.below hb)
    have HB := Lib.hid (HB.out.trans (hb.mono HB.out.size))
    have hs_w2 : w1.heap.size ≤ w2.heap.size := hb.size
    clear hb
    obtain ⟨lv_0, lv_1, lv_2⟩ := LV.out.cells
    go_wp2_with fail
    clear lv_0 lv_1 lv_2
    refine (to_card d f a l.length c l _ rfl HLEN.out (HR.out.since (Nat.le_refl _) HB.out)).mono ?_
    rintro e w3 ⟨aq, cq, rfl, hb, ho⟩
    have LV := Lib.hid (LV.out.below hb)
    have HB := Lib.hid (HB.out.trans (hb.mono HB.out.size))
    have hs_w3 : w2.heap.size ≤ w3.heap.size := hb.size
    clear hb
    have Oq := Lib.hid ho
    have Nq := Lib.hid ho.lt
    clear ho
    go_wp2_with fail
    refine (HSP.out _ _ _ _ Oq.out).mono ?_
    rintro e w4 ⟨rfl, hb⟩
    have LV := Lib.hid (LV.out.below hb)
    have Oq := Lib.hid (Oq.out.below hb)
    have HB := Lib.hid (HB.out.trans (hb.mono HB.out.size))
    have hs_w4 : w3.heap.size ≤ w4.heap.size := hb.size
    clear hb
    obtain ⟨lv_0, lv_1, lv_2⟩ := (LV.out.below (alloc_below w4 (.cells #[.int .i64 x, .int .i64 y, .int .i64 z] 39))).cells
    go_wp2_with fail
    clear lv_0 lv_1 lv_2
    have hv0 := BVar.new w4 x y z
    have hb := alloc_below w4 (.cells #[.int .i64 x, .int .i64 y, .int .i64 z] 39)
    have LV := Lib.hid (LV.out.below hb)
    have Oq := Lib.hid (Oq.out.below hb)
    have HB := Lib.hid (HB.out.trans (hb.mono HB.out.size))
    have hs_w5 : w4.heap.size < (w4.alloc (.cells #[.int .i64 x, .int .i64 y, .int .i64 z] 39)).heap.size := hv0.lt
    have VW := Lib.hid hv0
    clear hv0 hb
    generalize (w4.alloc (.cells #[.int .i64 x, .int .i64 y, .int .i64 z] 39)) = w5 at *
    refine (to_card d f a l.length c l _ rfl HLEN.out (HR.out.since (Nat.le_refl _) HB.out)).mono ?_
    rintro e w6 ⟨ax, cx, rfl, hb, ho⟩
    have LV := Lib.hid (LV.out.below hb)
    have Oq := Lib.hid (Oq.out.below hb)
    have VW := Lib.hid (VW.out.below hb)
    have HB := Lib.hid (HB.out.trans (hb.mono HB.out.size))
    have hs_w6 : w5.heap.size ≤ w6.heap.size := hb.size
    clear hb
    have Ox := Lib.hid ho
    have Nx := Lib.hid ho.lt
    clear ho
    go_wp2_with fail
    have hv0 := Var.new w6 d f (.slice ax l.length cx)
    have hb := alloc_below w6 (.cells #[.int .i64 d, .int .i64 f, .slice ax l.length cx] 26)
    have LV := Lib.hid (LV.out.below hb)
    have Oq := Lib.hid (Oq.out.below hb)
    have VW := Lib.hid (VW.out.below hb)
    have Ox := Lib.hid (Ox.out.below hb)
    have HB := Lib.hid (HB.out.trans (hb.mono HB.out.size))
    have hs_w7 : w6.heap.size < (w6.alloc (.cells #[.int .i64 d, .int .i64 f, .slice ax l.length cx] 26)).heap.size := hv0.lt
    have VX := Lib.hid hv0
    clear hv0 hb
    generalize (w6.alloc (.cells #[.int .i64 d, .int .i64 f, .slice ax l.length cx] 26)) = w7 at *
    refine (HIM.out _ _ _ _ Ox.out).mono ?_
    rintro e w8 ⟨rfl, hb⟩
    have LV := Lib.hid (LV.out.below hb)
    have Oq := Lib.hid (Oq.out.below hb)
    have VW := Lib.hid (VW.out.below hb)
    have Ox := Lib.hid (Ox.out.below hb)
    have VX := Lib.hid (VX.out.below hb)
    have HB := Lib.hid (HB.out.trans (hb.mono HB.out.size))
    have hs_w8 : w7.heap.size ≤ w8.heap.size := hb.size
    clear hb
    obtain ⟨vw_0, vw_1, vw_2⟩ := (VW.out.below (alloc_below w8 (.cells #[.int .i64 x, .int .i64 y, .int .i64 z] 39))).cells
    go_wp2_with fail
    clear vw_0 vw_1 vw_2
    have hv0 := BVar.new w8 x y z
    have hb := alloc_below w8 (.cells #[.int .i64 x, .int .i64 y, .int .i64 z] 39)
    have LV := Lib.hid (LV.out.below hb)
    have Oq := Lib.hid (Oq.out.below hb)
    have VW := Lib.hid (VW.out.below hb)
    have Ox := Lib.hid (Ox.out.below hb)
    have VX := Lib.hid (VX.out.below hb)
    have HB := Lib.hid (HB.out.trans (hb.mono HB.out.size))
    have hs_w9 : w8.heap.size < (w8.alloc (.cells #[.int .i64 x, .int .i64 y, .int .i64 z] 39)).heap.size := hv0.lt
    have VG := Lib.hid hv0
    clear hv0 hb
    generalize (w8.alloc (.cells #[.int .i64 x, .int .i64 y, .int .i64 z] 39)) = w9 at *
    refine (eq_box x y z _).mono ?_
    rintro e w10 ⟨rfl, hb⟩
    have LV := Lib.hid (LV.out.below hb)
    have Oq := Lib.hid (Oq.out.below hb)
    have VW := Lib.hid (VW.out.below hb)
    have Ox := Lib.hid (Ox.out.below hb)
    have VX := Lib.hid (VX.out.below hb)
    have VG := Lib.hid (VG.out.below hb)
    have HB := Lib.hid (HB.out.trans (hb.mono HB.out.size))
    have hs_w10 : w9.heap.size ≤ w10.heap.size := hb.size
    clear hb
    obtain ⟨vx_0, vx_1, vx_2⟩ := VX.out.cells
    obtain ⟨lv_0, lv_1, lv_2⟩ := LV.out.cells
    go_wp2_with fail
    have S0 : w10.cell? ⟨w6.heap.size, 0, none⟩ = some (.int .i64 d) ∧ w10.cell? ⟨w6.heap.size, 1, none⟩ = some (.int .i64 f) ∧ w10.cell? ⟨w6.heap.size, 2, none⟩ = some (.slice ax l.length cx) ∧ w10.cell? ⟨w.heap.size, 0, none⟩ = some (.int .i64 d) ∧ w10.cell? ⟨w.heap.size, 1, none⟩ = some (.int .i64 f) ∧ w10.cell? ⟨w.heap.size, 2, none⟩ = some (.slice a l.length c) ∧ Below w10.heap.size w10 w10 := ⟨vx_0, vx_1, vx_2, lv_0, lv_1, lv_2, Below.refl _ _⟩
    have HTO := Lib.hid (fun (w' : World) (hb : Below w10.heap.size w10 w') => to_card d f a l.length c l w' rfl HLEN.out (HR.out.since (Nat.le_refl _) (HB.out.trans (hb.mono HB.out.size))))
    have HXR := Lib.hid (fun (w' : World) (hb : Below w10.heap.size w10 w') => (Ox.out.below hb).row2.2)
    go_region_held3 (fun w' => w'.cell? ⟨w6.heap.size, 0, none⟩ = some (.int .i64 d) ∧ w'.cell? ⟨w6.heap.size, 1, none⟩ = some (.int .i64 f) ∧ w'.cell? ⟨w6.heap.size, 2, none⟩ = some (.slice ax l.length cx) ∧ w'.cell? ⟨w.heap.size, 0, none⟩ = some (.int .i64 d) ∧ w'.cell? ⟨w.heap.size, 1, none⟩ = some (.int .i64 f) ∧ w'.cell? ⟨w.heap.size, 2, none⟩ = some (.slice a l.length c) ∧ Below w10.heap.size w10 w')
      (first | exact S0 | exact eqs_drew S0 | exact eqs_next (by assumption) hb | exact eqs_next (by assumption) hb2 | exact eqs_next (by assumption) hb3 | exact eqs_drew (by assumption) | assumption)
      ((first | (go_at_call 25; refine (HTO.out _ (eqs_below (by assumption))).mono ?_; rintro e wy ⟨at_, ct_, rfl, hb, hoy⟩; have OY := Lib.hid hoy; clear hoy) | (go_at_call 27; refine (eq_card d f l.length cx ct_ ax at_ l rfl HLEN.out _ (HXR.out _ (eqs_below (by assumption))) (OY.out.row2.2)).mono ?_; rintro e wz1 ⟨rfl, hb2⟩)))
    have hbz : Below w10.heap.size w10 wz1 := eqs_below (w' := wz1) (by assumption)
    clear S0 HTO HXR hb hb2 OY
    clear vx_0 vx_1 vx_2 lv_0 lv_1 lv_2
    have LV := Lib.hid (LV.out.below hbz)
    have Oq := Lib.hid (Oq.out.below hbz)
    have VW := Lib.hid (VW.out.below hbz)
    have Ox := Lib.hid (Ox.out.below hbz)
    have VX := Lib.hid (VX.out.below hbz)
    have VG := Lib.hid (VG.out.below hbz)
    have HB := Lib.hid (HB.out.trans (hbz.mono HB.out.size))
    have hs_wz1 : w10.heap.size ≤ wz1.heap.size := hbz.size
    clear hbz
    go_wp2
    go_ret
    exact ⟨rfl, HB.out⟩
end Go.Proofs.Ytekmladindlmoaa.Box
