/- The law of LayerTable: the walk (printed by wip/gen_thick.py). -/
import Derived.Test.YtbdeppbbgokfhaaViewLawKit
import Derived.Test.YtbdeppbbgokfhaaThickTabSpec
import Derived.Test.YtbdeppbbgokfhaaThickTab
namespace Go.Proofs.Ytbdeppbbgokfhaa.Thick
open Go.ChangeShapes Go.WideShapes Go.ChangeAt Go.RowKit
open Go.Proofs.Ytbdeppbbgokfhaa.Strip Go.Proofs.Ytbdeppbbgokfhaa.Strs Go.Proofs.Ytbdeppbbgokfhaa.Card
open Go.Proofs.Ytbdeppbbgokfhaa.Ints (Own2 Row2 tot marks2 marks2_length eqSS_yes markSS_at heldSS_at)
open Go.Proofs.Ytbdeppbbgokfhaa.View (rowsV rowsV_length rowsV_at rowsV_next rowsV_take info_rows card_strip PostRows own_some mark_two1 held_two1 rows_aside)
set_option linter.unusedVariables false

set_option maxRecDepth 100000 in
set_option maxHeartbeats 8000000 in
theorem exactLayerTable (d f : Int) (a : Option Addr) (c : Nat) (l : List ByteArray) (w : World) (hn : l.length ≤ maxLen) (hz : ∀ s ∈ l, s.size ≤ maxLen) (hr : ARow w a l) :
    Calls Try.prog 9 #[.agg #[.int .i64 d, .int .i64 f, .slice a l.length c]] w fun e w' => e = .returned (.bool true) ∧ Below w.heap.size w w' := by
  have HSZ := Lib.hid (fun (w' : World) (hr : ARow w' a l) => sz_card 1048576 (by omega) (by omega) d f a l.length c l w' rfl hn hz hr)
  have HR := Lib.hid hr
  have HB := Lib.hid (Below.refl w.heap.size w)
  have hnx := hn
  unfold maxLen at hnx
  by_cases hneg : szV 1048576 l < 0
  · rw [sz_big hneg] at HSZ
    clear hr hz hneg
    go_enter Try.func9, Try.ntmps9
    go_wp2_with fail
    refine (HSZ.out _ (HR.out.below (alloc_below _ _))).mono ?_
    rintro e w1 ⟨rfl, hb⟩
    go_wp2
    go_ret
    exact ⟨rfl, (alloc_below w _).trans (hb.mono (by simp))⟩
  · obtain ⟨g1, g2, g3, g4⟩ := szV_ok hneg
    have HLEN := Lib.hid (show l.length ≤ 1048576 by omega)
    have HSIZES := Lib.hid (show ∀ s ∈ l, s.size ≤ 1048576 from fun s hs => by have := g2 s hs; omega)
    generalize szV 1048576 l = r at *
    have hsp := fun (w' : World) (base : Nat) (a' : Option Addr) (c' : Nat) (h : Own w' base (.slice a' l.length c') l) => tab_spec d f a' l.length c' l w' rfl HLEN.out HSIZES.out h.row2.2
    have him := fun (w' : World) (base : Nat) (a' : Option Addr) (c' : Nat) (h : Own w' base (.slice a' l.length c') l) => tab_impl d f a' l.length c' l w' rfl HLEN.out HSIZES.out h.row2.2
    have hln := tabs_tot d f l
    have hln2 := tabs_short d f l
    generalize tabV d f l = L at *
    have HSP := Lib.hid hsp
    have HIM := Lib.hid him
    have hbd : L.length ≤ maxLen := by unfold maxLen; omega
    obtain ⟨n, hn1⟩ : ∃ n, L.length = n := ⟨_, rfl⟩
    obtain ⟨m, hm9⟩ : ∃ m, tot L = m := ⟨_, rfl⟩
    have HN := Lib.hid hn1
    have HM := Lib.hid hm9
    rw [hm9] at hln
    rw [hn1] at hln2 hbd
    clear hn1 hm9 hsp him
    have HMK := Lib.hid (fun base cap a vs w hbw h => mark_two1 base n cap a vs L HN.out (by rw [HM.out]; exact hln) hln2 w hbw h)
    have HHE := Lib.hid (fun a cap w h => held_two1 a n cap L HN.out (by rw [HM.out]; exact hln) hln2 w h)
    rw [HM.out] at HMK HHE
    have hlx : (l.length : Int) ≤ 1048576 := by omega
    have hl0 : (0 : Int) ≤ (l.length : Int) := Int.natCast_nonneg _
    have hm0 : (0 : Int) ≤ (m : Int) := Int.natCast_nonneg _
    have hm1 : (m : Int) ≤ 1000000 := by omega
    clear hr hz g1 g2 hneg
    go_enter Try.func9, Try.ntmps9
    go_wp2_with fail
    have LV := Lib.hid (LVar.new w d f (.slice a l.length c))
    have HB := Lib.hid (HB.out.trans (alloc_below w (.cells #[.int .i64 d, .int .i64 f, .slice a l.length c] 41)))
    generalize (w.alloc (.cells #[.int .i64 d, .int .i64 f, .slice a l.length c] 41)) = w1 at *
    refine (HSZ.out _ (HR.out.since (Nat.le_refl _) HB.out)).mono ?_
    rintro e w2 ⟨rfl, hb⟩
    have LV := Lib.hid (LV.out.below hb)
    have HB := Lib.hid (HB.out.trans (hb.mono HB.out.size))
    clear hb
    obtain ⟨lv_0, lv_1, lv_2⟩ := LV.out.cells
    go_wp2_with fail
    clear lv_0 lv_1 lv_2
    refine (to_card d f a l.length c l _ rfl HLEN.out (HR.out.since (Nat.le_refl _) HB.out)).mono ?_
    rintro e w3 ⟨a3, c3, rfl, hb, ho⟩
    have LV := Lib.hid (LV.out.below hb)
    have HB := Lib.hid (HB.out.trans (hb.mono HB.out.size))
    have O3 := Lib.hid ho
    clear hb ho
    go_wp2_with fail
    refine (HSP.out _ _ _ _ O3.out).mono ?_
    rintro e wS ⟨vS, us, rfl, hb, hoS⟩
    have LVS := Lib.hid (LV.out.below hb)
    have HB := Lib.hid (HB.out.trans (hb.mono HB.out.size))
    have OS := Lib.hid hoS
    clear hb hoS O3 LV
    have HSS := Lib.hid HB.out.size
    obtain ⟨aS, cS, rfl, _, _⟩ := OS.out.row
    rw [HN.out] at OS ⊢
    have HTO := Lib.hid (fun (w' : World) (hb : Below wS.heap.size wS w') => to_card d f a l.length c l w' rfl HLEN.out (HR.out.since (Nat.le_refl _) (HB.out.trans (hb.mono HSS.out))))
    obtain ⟨lv_0, lv_1, lv_2⟩ := LVS.out.cells
    go_wp2_with fail
    clear lv_0 lv_1 lv_2
    refine (HTO.out _ (Below.refl _ _)).mono ?_
    rintro e w5 ⟨a5, c5, rfl, hb, ho⟩
    have C5 := Lib.hid hb
    have O5 := Lib.hid ho
    clear hb ho
    go_wp2_with fail
    have VX := Lib.hid (Var.new w5 d f (.slice a5 l.length c5))
    have hb := alloc_below w5 (.cells #[.int .i64 d, .int .i64 f, .slice a5 l.length c5] 26)
    have O5 := Lib.hid (O5.out.below hb)
    have C5 := Lib.hid (C5.out.trans (hb.mono C5.out.size))
    clear hb
    generalize (w5.alloc (.cells #[.int .i64 d, .int .i64 f, .slice a5 l.length c5] 26)) = w6 at *
    have NO := Lib.hid (fun k e => (O5.out.lt k e).2)
    have NB := Lib.hid (fun k e => (O5.out.lt k e).1)
    refine (HIM.out _ _ _ _ O5.out).mono ?_
    rintro e w7 ⟨vI, ui, rfl, hb, hoI⟩
    have VX := Lib.hid (VX.out.below hb)
    have O7 := Lib.hid (O5.out.below hb)
    have C7 := Lib.hid (C5.out.trans (hb.mono C5.out.size))
    have OI := Lib.hid hoI
    have HSI := Lib.hid C5.out.size
    have HIZ := Lib.hid hb.size
    clear hb hoI O5 C5
    obtain ⟨aI, cI, rfl, _, _⟩ := OI.out.row
    rw [HN.out] at OI ⊢
    go_wp2_with fail
    obtain ⟨_, _, e1, r1, _⟩ := (OS.out.below C7.out).row
    rw [HN.out] at e1
    cases e1
    obtain ⟨_, _, e2, r2, _⟩ := OI.out.row
    rw [HN.out] at e2
    cases e2
    refine (eqSS_yes n cI cS aI aS L HN.out hbd _ r2 r1).mono ?_
    clear r1 r2
    rintro e w8 ⟨rfl, q, rfl⟩
    have hb := drewN_below w7 q
    have VX := Lib.hid (VX.out.below hb)
    have O8 := Lib.hid (O7.out.below hb)
    have C8 := Lib.hid (C7.out.trans (hb.mono C7.out.size))
    have OI8 := Lib.hid (OI.out.below hb)
    have HIZ8 := Lib.hid (Nat.le_trans HIZ.out hb.size)
    clear hb OI O7 C7
    generalize w7.drewN q = w8 at *
    obtain ⟨lv_0, lv_1, lv_2⟩ := (LVS.out.below C8.out).cells
    obtain ⟨vx_0, vx_1, vx_2⟩ := VX.out.cells
    go_wp2_with fail
    have S0 : w8.cell? ⟨w5.heap.size, 0, none⟩ = some (.int .i64 d) ∧ w8.cell? ⟨w5.heap.size, 1, none⟩ = some (.int .i64 f) ∧ w8.cell? ⟨w5.heap.size, 2, none⟩ = some (.slice a5 l.length c5) ∧ w8.cell? ⟨w.heap.size, 0, none⟩ = some (.int .i64 d) ∧ w8.cell? ⟨w.heap.size, 1, none⟩ = some (.int .i64 f) ∧ w8.cell? ⟨w.heap.size, 2, none⟩ = some (.slice a l.length c) ∧ Below w8.heap.size w8 w8 := ⟨vx_0, vx_1, vx_2, lv_0, lv_1, lv_2, Below.refl _ _⟩
    have HXR := Lib.hid (fun (w' : World) (hb : Below w8.heap.size w8 w') => (O8.out.below hb).row2.2)
    have HT8 := Lib.hid (fun (w' : World) (hb : Below w8.heap.size w8 w') => HTO.out w' (C8.out.trans (hb.mono C8.out.size)))
    go_region_held3 (fun w' => w'.cell? ⟨w5.heap.size, 0, none⟩ = some (.int .i64 d) ∧ w'.cell? ⟨w5.heap.size, 1, none⟩ = some (.int .i64 f) ∧ w'.cell? ⟨w5.heap.size, 2, none⟩ = some (.slice a5 l.length c5) ∧ w'.cell? ⟨w.heap.size, 0, none⟩ = some (.int .i64 d) ∧ w'.cell? ⟨w.heap.size, 1, none⟩ = some (.int .i64 f) ∧ w'.cell? ⟨w.heap.size, 2, none⟩ = some (.slice a l.length c) ∧ Below w8.heap.size w8 w')
      (first | exact S0 | exact eqs_drew S0 | exact eqs_next (by assumption) hb | exact eqs_next (by assumption) hb2 | exact eqs_drew (by assumption) | assumption)
      ((first | (go_at_call 33; refine (HT8.out _ (eqs_below (by assumption))).mono ?_; rintro e wy ⟨ay, cy, rfl, hb, hoy⟩; have OY := Lib.hid hoy; clear hoy) | (go_at_call 35; refine (eq_card d f l.length c5 cy a5 ay l rfl HLEN.out _ (HXR.out _ (eqs_below (by assumption))) (OY.out.row2.2)).mono ?_; rintro e w9 ⟨rfl, hb2⟩)))
    have hbz : Below w8.heap.size w8 w9 := eqs_below (w' := w9) (by assumption)
    have VX := Lib.hid (VX.out.below hbz)
    have O9 := Lib.hid (O8.out.below hbz)
    have C9 := Lib.hid (C8.out.trans (hbz.mono C8.out.size))
    have OI9 := Lib.hid (OI8.out.below hbz)
    have HIZ9 := Lib.hid (Nat.le_trans HIZ8.out hbz.size)
    clear S0 HXR HT8 hb hb2 OY hbz lv_0 lv_1 lv_2 vx_0 vx_1 vx_2 OI8 O8 C8 HIZ8
    obtain ⟨vx_0, vx_1, vx_2⟩ := VX.out.cells
    go_wp2_with fail
    clear vx_0 vx_1 vx_2
    refine (mark_card d f _ a5 c5 l HLEN.out _ O9.out).mono ?_
    rintro e wA ⟨rfl, hmk, hg⟩
    have CA := Lib.hid (C9.out.grown hg C9.out.size (fun k e => NB.out k e))
    have OIA := Lib.hid (rows_aside OI9.out hg (fun k e => NO.out k e))
    have HIZA := Lib.hid (Nat.le_trans HIZ9.out hg.size)
    clear hmk hg O9 C9 OI9 HIZ9 VX
    go_wp2_with fail
    obtain ⟨_, _, e1, r1, _⟩ := (OS.out.below CA.out).row
    rw [HN.out] at e1
    cases e1
    obtain ⟨_, _, e2, r2, _⟩ := OIA.out.row
    rw [HN.out] at e2
    cases e2
    refine (eqSS_yes n cI cS aI aS L HN.out hbd _ r2 r1).mono ?_
    clear r1 r2
    rintro e wB ⟨rfl, q, rfl⟩
    have hb := drewN_below wA q
    have CB := Lib.hid (CA.out.trans (hb.mono CA.out.size))
    have OIB := Lib.hid (OIA.out.below hb)
    have HIZB := Lib.hid (Nat.le_trans HIZA.out hb.size)
    clear hb CA OIA HIZA
    generalize wA.drewN q = wB at *
    go_wp2_with fail
    refine (HMK.out _ cI aI ui _ HIZB.out OIB.out).mono ?_
    rintro e wC ⟨rfl, hmk, hgr⟩
    have CC := Lib.hid (CB.out.trans (hgr.mono HSI.out))
    have MC := Lib.hid hmk
    clear hmk hgr CB OIB
    go_wp2_with fail
    obtain ⟨_, _, e3, r3, _⟩ := MC.out.row
    rw [marks2_length, HN.out] at e3
    cases e3
    refine (HHE.out aI cI _ r3).mono ?_
    clear r3
    rintro e wD ⟨rfl, q, rfl⟩
    have hb := drewN_below wC q
    have CD := Lib.hid (CC.out.trans (hb.mono CC.out.size))
    have MD := Lib.hid (MC.out.below hb)
    clear hb CC MC
    generalize wC.drewN q = wD at *
    obtain ⟨lv_0, lv_1, lv_2⟩ := (LVS.out.below CD.out).cells
    go_wp2_with fail
    clear lv_0 lv_1 lv_2
    refine (HTO.out _ CD.out).mono ?_
    rintro e wE ⟨aE, cE, rfl, hb, ho⟩
    have CE := Lib.hid (CD.out.trans (hb.mono CD.out.size))
    have ME := Lib.hid (MD.out.below hb)
    have OE := Lib.hid ho
    clear hb ho CD MD
    go_wp2_with fail
    refine (HIM.out _ _ _ _ OE.out).mono ?_
    rintro e wF ⟨vF, uF, rfl, hb, hoF⟩
    have CF := Lib.hid (CE.out.trans (hb.mono CE.out.size))
    have MF := Lib.hid (ME.out.below hb)
    have OF := Lib.hid hoF
    clear hb hoF CE ME OE
    obtain ⟨aF, cF, rfl, _, _⟩ := OF.out.row
    rw [HN.out] at OF ⊢
    go_wp2_with fail
    obtain ⟨_, _, e1, r1, _⟩ := (OS.out.below CF.out).row
    rw [HN.out] at e1
    cases e1
    obtain ⟨_, _, e2, r2, _⟩ := OF.out.row
    rw [HN.out] at e2
    cases e2
    refine (eqSS_yes n cF cS aF aS L HN.out hbd _ r2 r1).mono ?_
    clear r1 r2
    rintro e wG ⟨rfl, q, rfl⟩
    have hb := drewN_below wF q
    have CG := Lib.hid (CF.out.trans (hb.mono CF.out.size))
    have MG := Lib.hid (MF.out.below hb)
    clear hb CF MF
    generalize wF.drewN q = wG at *
    go_wp2_with fail
    obtain ⟨_, _, e3, r3, _⟩ := MG.out.row
    rw [marks2_length, HN.out] at e3
    cases e3
    refine (HHE.out aI cI _ r3).mono ?_
    clear r3
    rintro e wH ⟨rfl, q, rfl⟩
    have hb := drewN_below wG q
    have CH := Lib.hid (CG.out.trans (hb.mono CG.out.size))
    clear hb CG MG
    generalize wG.drewN q = wH at *
    go_wp2
    go_ret
    exact ⟨rfl, HB.out.trans (CH.out.mono HSS.out)⟩
end Go.Proofs.Ytbdeppbbgokfhaa.Thick
