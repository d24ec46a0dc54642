/- The law of AddBoxes: the walk (printed by wip/gen_addslaw.py). -/
import Derived.Test.YtekmladindlmoaaBoxRow2
import Derived.Test.YtekmladindlmoaaBoxAddsSpec
import Derived.Deep.DeepCutAuto
import Derived.Deep.RegionHeld3
namespace Go.Proofs.Ytekmladindlmoaa.Box
open Go.ChangeShapes Go.WideShapes Go.ChangeAt Go.RowKit
open Go.Proofs.Ytekmladindlmoaa.Strip Go.Proofs.Ytekmladindlmoaa.Strs Go.Proofs.Ytekmladindlmoaa.Card
set_option linter.unusedVariables false

set_option maxRecDepth 100000 in
set_option maxHeartbeats 16000000 in
theorem exactAddBoxes (d f : Int) (a : Option Addr) (c : Nat) (l : List ByteArray) (ab : Option Addr) (cb : Nat) (bs : List B3) (w : World) (hn : l.length ≤ maxLen) (hz : ∀ s ∈ l, s.size ≤ maxLen) (hr : ARow w a l) (hnb : bs.length ≤ maxLen) (hok2 : ∀ b ∈ bs, B3.ok b) (hrb : ABRow w ab bs) :
    Calls Try.prog 7 #[.agg #[.int .i64 d, .int .i64 f, .slice a l.length c], .slice ab bs.length cb] w fun e w' => e = .returned (.bool true) ∧ Below w.heap.size w w' := by
  have HSZ := Lib.hid (fun (w' : World) (hr : ARow w' a l) => sz_card 1048576 (by omega) (by omega) d f a l.length c l w' rfl hn hz hr)
  have HR := Lib.hid hr
  have HRB := Lib.hid hrb
  have HFIT := Lib.hid (show ∀ b ∈ bs, Fits b from fun b hb => i64_bounds (hok2 b hb).2.2)
  have HB := Lib.hid (Below.refl w.heap.size w)
  have hnx := hn
  have hnx2 := hnb
  unfold maxLen at hnx hnx2
  clear hrb hok2
  by_cases hneg : szV 1048576 l < 0
  · rw [sz_big hneg] at HSZ
    clear hr hz hneg
    go_enter Try.func7, Try.ntmps7
    go_wp2_with fail
    refine (HSZ.out _ (HR.out.below (alloc_below _ _))).mono ?_
    rintro e w1 ⟨rfl, hb⟩
    go_wp2
    go_ret
    exact ⟨rfl, (alloc_below w _).trans (hb.mono (by simp))⟩
  · obtain ⟨g1, g2, g3, g4⟩ := szV_ok hneg
    have HLEN := Lib.hid (show l.length ≤ 1048576 by omega)
    have HZ1 := Lib.hid (show ∀ s ∈ l, s.size ≤ 1048576 from fun s hs => by have := g2 s hs; omega)
    have hg4 : szV 1048576 l ≤ 1048576 := by omega
    clear g2
    generalize szV 1048576 l = r at *
    clear g1 hneg hz hr
    have HSZ2 := Lib.hid (fun (w' : World) => sz_boxes r g3 hg4 ab bs.length cb hnb w')
    by_cases hneg : r - (bs.length : Int) < 0
    · have e1 : (if r - (bs.length : Int) < 0 then (-1 : Int) else r - (bs.length : Int)) = -1 := if_pos hneg
      rw [e1] at HSZ2
      clear hneg e1
      go_enter Try.func7, Try.ntmps7
      go_wp2_with fail
      have LV := Lib.hid (LVar.new w d f (.slice a l.length c))
      have hs_w1 : w.heap.size < (w.alloc (.cells #[.int .i64 d, .int .i64 f, .slice a l.length c] 45)).heap.size := LV.out.lt
      have HB := Lib.hid (HB.out.alloc HB.out.size (.cells #[.int .i64 d, .int .i64 f, .slice a l.length c] 45))
      generalize (w.alloc (.cells #[.int .i64 d, .int .i64 f, .slice a l.length c] 45)) = w1 at *
      refine (HSZ.out _ (HR.out.since (Nat.le_refl _) HB.out)).mono ?_
      rintro e w2 ⟨rfl, hb⟩
      have LV := Lib.hid (LV.out.below hb)
      have HB := Lib.hid (HB.out.trans (hb.mono HB.out.size))
      have hs_w2 : w1.heap.size ≤ w2.heap.size := hb.size
      clear hb
      obtain ⟨lv_0, lv_1, lv_2⟩ := LV.out.cells
      go_wp2_with fail
      clear lv_0 lv_1 lv_2
      refine (HSZ2.out _).mono ?_
      rintro e w3 ⟨rfl, hb⟩
      have LV := Lib.hid (LV.out.below hb)
      have HB := Lib.hid (HB.out.trans (hb.mono HB.out.size))
      have hs_w3 : w2.heap.size ≤ w3.heap.size := hb.size
      clear hb
      go_wp2
      go_ret
      exact ⟨rfl, HB.out⟩
    · have e1 : (if r - (bs.length : Int) < 0 then (-1 : Int) else r - (bs.length : Int)) = r - (bs.length : Int) := if_neg hneg
      rw [e1] at HSZ2
      have HLB := Lib.hid (show bs.length ≤ 1048576 by omega)
      generalize hr2 : r - (bs.length : Int) = r2 at *
      clear e1 hr2
      have hsp := fun (w' : World) (x : Nat) (a' : Option Addr) (c' : Nat) (b' : Option Addr) (e' : Nat) (h : Own w' x (.slice a' l.length c') l) (h2 : BRow w' b' bs) => adds_spec d f x l.length c' a' l b' bs.length e' bs w' HLEN.out h HZ1.out rfl HLB.out h2 HFIT.out
      have him := fun (w' : World) (x : Nat) (a' : Option Addr) (c' : Nat) (b' : Option Addr) (e' : Nat) (h : Own w' x (.slice a' l.length c') l) (h2 : BRow w' b' bs) => adds_impl d f x l.length c' a' l b' bs.length e' bs w' HLEN.out h HZ1.out rfl HLB.out h2 HFIT.out
      unfold Gave3 at hsp him
      have hml := addsL_length d f l bs
      generalize addsL d f l bs = M at *
      generalize addsN d f l bs = q0 at *
      have hm2 : M.length ≤ 1048576 := by have := HLEN.out; omega
      have HSP := Lib.hid hsp
      have HIM := Lib.hid him
      clear hsp him hml
      have hok : (q0 != q0) = false := by simp
      have hl0 : (0 : Int) ≤ (l.length : Int) := Int.natCast_nonneg _
      have hl1 : (l.length : Int) ≤ 1048576 := by have := HLEN.out; omega
      have hLL0 : (0 : Int) ≤ (M.length : Int) := Int.natCast_nonneg _
      have hLL1 : (M.length : Int) ≤ 1048576 := by omega
      have hqq : ((1 + (M.length : Int)) != (1 + (M.length : Int))) = false := by simp
      have hk0 : (0 : Int) ≤ (bs.length : Int) := Int.natCast_nonneg _
      have hk1 : (bs.length : Int) ≤ 1048576 := by have := HLB.out; omega
      go_enter Try.func7, Try.ntmps7
      go_wp2_with fail
      have LV := Lib.hid (LVar.new w d f (.slice a l.length c))
      have hs_w1 : w.heap.size < (w.alloc (.cells #[.int .i64 d, .int .i64 f, .slice a l.length c] 45)).heap.size := LV.out.lt
      have HB := Lib.hid (HB.out.alloc HB.out.size (.cells #[.int .i64 d, .int .i64 f, .slice a l.length c] 45))
      generalize (w.alloc (.cells #[.int .i64 d, .int .i64 f, .slice a l.length c] 45)) = w1 at *
      refine (HSZ.out _ (HR.out.since (Nat.le_refl _) HB.out)).mono ?_
      rintro e w2 ⟨rfl, hb⟩
      have LV := Lib.hid (LV.out.below hb)
      have HB := Lib.hid (HB.out.trans (hb.mono HB.out.size))
      have hs_w2 : w1.heap.size ≤ w2.heap.size := hb.size
      clear hb
      obtain ⟨lv_0, lv_1, lv_2⟩ := LV.out.cells
      go_wp2_with fail
      clear lv_0 lv_1 lv_2
      refine (HSZ2.out _).mono ?_
      rintro e w3 ⟨rfl, hb⟩
      have LV := Lib.hid (LV.out.below hb)
      have HB := Lib.hid (HB.out.trans (hb.mono HB.out.size))
      have hs_w3 : w2.heap.size ≤ w3.heap.size := hb.size
      clear hb
      obtain ⟨lv_0, lv_1, lv_2⟩ := LV.out.cells
      go_wp2_with fail
      clear lv_0 lv_1 lv_2
      refine (to_card d f a l.length c l _ rfl HLEN.out (HR.out.since (Nat.le_refl _) HB.out)).mono ?_
      rintro e w4 ⟨aq, cq, rfl, hb, ho⟩
      have LV := Lib.hid (LV.out.below hb)
      have HB := Lib.hid (HB.out.trans (hb.mono HB.out.size))
      have hs_w4 : w3.heap.size ≤ w4.heap.size := hb.size
      clear hb
      have Oq := Lib.hid ho
      have Nq := Lib.hid ho.lt
      clear ho
      go_wp2_with fail
      refine (to_boxes ab cb bs _ HLB.out (HRB.out.below HB.out)).mono ?_
      rintro e w5 ⟨vb, rfl, hb, hob⟩
      obtain ⟨br, dr, rfl, _, _⟩ := hob.row
      have LV := Lib.hid (LV.out.below hb)
      have Oq := Lib.hid (Oq.out.below hb)
      have HB := Lib.hid (HB.out.trans (hb.mono HB.out.size))
      have hs_w5 : w4.heap.size ≤ w5.heap.size := hb.size
      clear hb
      have Br := Lib.hid hob
      have Nr := Lib.hid hob.lt
      clear hob
      go_wp2_with fail
      refine (HSP.out _ _ _ _ _ _ Oq.out Br.out.row2.2).mono ?_
      rintro e w6 ⟨aw, cw, rfl, hb, ho⟩
      have LV := Lib.hid (LV.out.below hb)
      have Oq := Lib.hid (Oq.out.below hb)
      have Br := Lib.hid (Br.out.below hb)
      have HB := Lib.hid (HB.out.trans (hb.mono HB.out.size))
      have hs_w6 : w5.heap.size ≤ w6.heap.size := hb.size
      clear hb
      have Ow := Lib.hid ho
      have Nw := Lib.hid ho.lt
      clear ho
      obtain ⟨lv_0, lv_1, lv_2⟩ := (LV.out.below (alloc_below w6 (.cells #[.int .i64 d, .int .i64 f, .slice aw M.length cw] 26))).cells
      go_wp2_with fail
      clear lv_0 lv_1 lv_2
      have hv0 := Var.new w6 d f (.slice aw M.length cw)
      have hb := alloc_below w6 (.cells #[.int .i64 d, .int .i64 f, .slice aw M.length cw] 26)
      have LV := Lib.hid (LV.out.below hb)
      have Oq := Lib.hid (Oq.out.below hb)
      have Br := Lib.hid (Br.out.below hb)
      have Ow := Lib.hid (Ow.out.below hb)
      have HB := Lib.hid (HB.out.trans (hb.mono HB.out.size))
      have hs_w7 : w6.heap.size < (w6.alloc (.cells #[.int .i64 d, .int .i64 f, .slice aw M.length cw] 26)).heap.size := hv0.lt
      have VW := Lib.hid hv0
      clear hv0 hb
      generalize (w6.alloc (.cells #[.int .i64 d, .int .i64 f, .slice aw M.length cw] 26)) = w7 at *
      refine (to_card d f a l.length c l _ rfl HLEN.out (HR.out.since (Nat.le_refl _) HB.out)).mono ?_
      rintro e w8 ⟨ax, cx, rfl, hb, ho⟩
      have LV := Lib.hid (LV.out.below hb)
      have Oq := Lib.hid (Oq.out.below hb)
      have Br := Lib.hid (Br.out.below hb)
      have Ow := Lib.hid (Ow.out.below hb)
      have VW := Lib.hid (VW.out.below hb)
      have HB := Lib.hid (HB.out.trans (hb.mono HB.out.size))
      have hs_w8 : w7.heap.size ≤ w8.heap.size := hb.size
      clear hb
      have Ox := Lib.hid ho
      have Nx := Lib.hid ho.lt
      clear ho
      go_wp2_with fail
      have hv0 := Var.new w8 d f (.slice ax l.length cx)
      have hb := alloc_below w8 (.cells #[.int .i64 d, .int .i64 f, .slice ax l.length cx] 26)
      have LV := Lib.hid (LV.out.below hb)
      have Oq := Lib.hid (Oq.out.below hb)
      have Br := Lib.hid (Br.out.below hb)
      have Ow := Lib.hid (Ow.out.below hb)
      have VW := Lib.hid (VW.out.below hb)
      have Ox := Lib.hid (Ox.out.below hb)
      have HB := Lib.hid (HB.out.trans (hb.mono HB.out.size))
      have hs_w9 : w8.heap.size < (w8.alloc (.cells #[.int .i64 d, .int .i64 f, .slice ax l.length cx] 26)).heap.size := hv0.lt
      have VX := Lib.hid hv0
      clear hv0 hb
      generalize (w8.alloc (.cells #[.int .i64 d, .int .i64 f, .slice ax l.length cx] 26)) = w9 at *
      refine (to_boxes ab cb bs _ HLB.out (HRB.out.below HB.out)).mono ?_
      rintro e w10 ⟨vb, rfl, hb, hob⟩
      obtain ⟨by_, dy, rfl, _, _⟩ := hob.row
      have LV := Lib.hid (LV.out.below hb)
      have Oq := Lib.hid (Oq.out.below hb)
      have Br := Lib.hid (Br.out.below hb)
      have Ow := Lib.hid (Ow.out.below hb)
      have VW := Lib.hid (VW.out.below hb)
      have Ox := Lib.hid (Ox.out.below hb)
      have VX := Lib.hid (VX.out.below hb)
      have HB := Lib.hid (HB.out.trans (hb.mono HB.out.size))
      have hs_w10 : w9.heap.size ≤ w10.heap.size := hb.size
      clear hb
      have By := Lib.hid hob
      have Ny := Lib.hid hob.lt
      clear hob
      obtain ⟨vx_0, vx_1, vx_2⟩ := VX.out.cells
      go_wp2_with fail
      clear vx_0 vx_1 vx_2
      refine (HIM.out _ _ _ _ _ _ Ox.out By.out.row2.2).mono ?_
      rintro e w11 ⟨ag, cg, rfl, hb, ho⟩
      have LV := Lib.hid (LV.out.below hb)
      have Oq := Lib.hid (Oq.out.below hb)
      have Br := Lib.hid (Br.out.below hb)
      have Ow := Lib.hid (Ow.out.below hb)
      have VW := Lib.hid (VW.out.below hb)
      have Ox := Lib.hid (Ox.out.below hb)
      have VX := Lib.hid (VX.out.below hb)
      have By := Lib.hid (By.out.below hb)
      have HB := Lib.hid (HB.out.trans (hb.mono HB.out.size))
      have hs_w11 : w10.heap.size ≤ w11.heap.size := hb.size
      clear hb
      have Og := Lib.hid ho
      have Ng := Lib.hid ho.lt
      clear ho
      obtain ⟨vw_0, vw_1, vw_2⟩ := (VW.out.below (alloc_below w11 (.cells #[.int .i64 d, .int .i64 f, .slice ag M.length cg] 26))).cells
      go_wp2_with fail
      clear vw_0 vw_1 vw_2
      have hv0 := Var.new w11 d f (.slice ag M.length cg)
      have hb := alloc_below w11 (.cells #[.int .i64 d, .int .i64 f, .slice ag M.length cg] 26)
      have LV := Lib.hid (LV.out.below hb)
      have Oq := Lib.hid (Oq.out.below hb)
      have Br := Lib.hid (Br.out.below hb)
      have Ow := Lib.hid (Ow.out.below hb)
      have VW := Lib.hid (VW.out.below hb)
      have Ox := Lib.hid (Ox.out.below hb)
      have VX := Lib.hid (VX.out.below hb)
      have By := Lib.hid (By.out.below hb)
      have Og := Lib.hid (Og.out.below hb)
      have HB := Lib.hid (HB.out.trans (hb.mono HB.out.size))
      have hs_w12 : w11.heap.size < (w11.alloc (.cells #[.int .i64 d, .int .i64 f, .slice ag M.length cg] 26)).heap.size := hv0.lt
      have VG := Lib.hid hv0
      clear hv0 hb
      generalize (w11.alloc (.cells #[.int .i64 d, .int .i64 f, .slice ag M.length cg] 26)) = w12 at *
      refine (eq_card d f M.length cg cw ag aw M rfl hm2 _ Og.out.row2.2 Ow.out.row2.2).mono ?_
      rintro e w13 ⟨rfl, hb⟩
      have LV := Lib.hid (LV.out.below hb)
      have Oq := Lib.hid (Oq.out.below hb)
      have Br := Lib.hid (Br.out.below hb)
      have Ow := Lib.hid (Ow.out.below hb)
      have VW := Lib.hid (VW.out.below hb)
      have Ox := Lib.hid (Ox.out.below hb)
      have VX := Lib.hid (VX.out.below hb)
      have By := Lib.hid (By.out.below hb)
      have Og := Lib.hid (Og.out.below hb)
      have VG := Lib.hid (VG.out.below hb)
      have HB := Lib.hid (HB.out.trans (hb.mono HB.out.size))
      have hs_w13 : w12.heap.size ≤ w13.heap.size := hb.size
      clear hb
      obtain ⟨vx_0, vx_1, vx_2⟩ := VX.out.cells
      obtain ⟨lv_0, lv_1, lv_2⟩ := LV.out.cells
      go_wp2_with fail
      have S0 : w13.cell? ⟨w8.heap.size, 0, none⟩ = some (.int .i64 d) ∧ w13.cell? ⟨w8.heap.size, 1, none⟩ = some (.int .i64 f) ∧ w13.cell? ⟨w8.heap.size, 2, none⟩ = some (.slice ax l.length cx) ∧ w13.cell? ⟨w.heap.size, 0, none⟩ = some (.int .i64 d) ∧ w13.cell? ⟨w.heap.size, 1, none⟩ = some (.int .i64 f) ∧ w13.cell? ⟨w.heap.size, 2, none⟩ = some (.slice a l.length c) ∧ Below w13.heap.size w13 w13 := ⟨vx_0, vx_1, vx_2, lv_0, lv_1, lv_2, Below.refl _ _⟩
      have HTO := Lib.hid (fun (w' : World) (hb : Below w13.heap.size w13 w') => to_card d f a l.length c l w' rfl HLEN.out (HR.out.since (Nat.le_refl _) (HB.out.trans (hb.mono HB.out.size))))
      have HXR := Lib.hid (fun (w' : World) (hb : Below w13.heap.size w13 w') => (Ox.out.below hb).row2.2)
      go_region_held3 (fun w' => w'.cell? ⟨w8.heap.size, 0, none⟩ = some (.int .i64 d) ∧ w'.cell? ⟨w8.heap.size, 1, none⟩ = some (.int .i64 f) ∧ w'.cell? ⟨w8.heap.size, 2, none⟩ = some (.slice ax l.length cx) ∧ w'.cell? ⟨w.heap.size, 0, none⟩ = some (.int .i64 d) ∧ w'.cell? ⟨w.heap.size, 1, none⟩ = some (.int .i64 f) ∧ w'.cell? ⟨w.heap.size, 2, none⟩ = some (.slice a l.length c) ∧ Below w13.heap.size w13 w')
        (first | exact S0 | exact eqs_drew S0 | exact eqs_next (by assumption) hb | exact eqs_next (by assumption) hb2 | exact eqs_next (by assumption) hb3 | exact eqs_drew (by assumption) | assumption)
        ((first | (go_at_call 25; refine (HTO.out _ (eqs_below (by assumption))).mono ?_; rintro e wy ⟨at_, ct_, rfl, hb, hoy⟩; have OY := Lib.hid hoy; clear hoy) | (go_at_call 27; refine (eq_card d f l.length cx ct_ ax at_ l rfl HLEN.out _ (HXR.out _ (eqs_below (by assumption))) (OY.out.row2.2)).mono ?_; rintro e wz1 ⟨rfl, hb2⟩)))
      have hbz : Below w13.heap.size w13 wz1 := eqs_below (w' := wz1) (by assumption)
      clear S0 HTO HXR hb hb2 OY
      clear vx_0 vx_1 vx_2 lv_0 lv_1 lv_2
      have LV := Lib.hid (LV.out.below hbz)
      have Oq := Lib.hid (Oq.out.below hbz)
      have Br := Lib.hid (Br.out.below hbz)
      have Ow := Lib.hid (Ow.out.below hbz)
      have VW := Lib.hid (VW.out.below hbz)
      have Ox := Lib.hid (Ox.out.below hbz)
      have VX := Lib.hid (VX.out.below hbz)
      have By := Lib.hid (By.out.below hbz)
      have Og := Lib.hid (Og.out.below hbz)
      have VG := Lib.hid (VG.out.below hbz)
      have HB := Lib.hid (HB.out.trans (hbz.mono HB.out.size))
      have hs_wz1 : w13.heap.size ≤ wz1.heap.size := hbz.size
      clear hbz
      go_wp2_with fail
      refine (to_boxes ab cb bs _ HLB.out (HRB.out.below HB.out)).mono ?_
      rintro e w14 ⟨vb, rfl, hb, hob⟩
      obtain ⟨bz, dz, rfl, _, _⟩ := hob.row
      have LV := Lib.hid (LV.out.below hb)
      have Oq := Lib.hid (Oq.out.below hb)
      have Br := Lib.hid (Br.out.below hb)
      have Ow := Lib.hid (Ow.out.below hb)
      have VW := Lib.hid (VW.out.below hb)
      have Ox := Lib.hid (Ox.out.below hb)
      have VX := Lib.hid (VX.out.below hb)
      have By := Lib.hid (By.out.below hb)
      have Og := Lib.hid (Og.out.below hb)
      have VG := Lib.hid (VG.out.below hb)
      have HB := Lib.hid (HB.out.trans (hb.mono HB.out.size))
      have hs_w14 : wz1.heap.size ≤ w14.heap.size := hb.size
      clear hb
      have Bz := Lib.hid hob
      have Nz := Lib.hid hob.lt
      clear hob
      go_wp2_with fail
      refine (eq_boxes bs.length dy dz by_ bz bs rfl (by have := HLB.out; unfold maxLen; omega) _ By.out.row2.2 Bz.out.row2.2).mono ?_
      rintro e w15 ⟨rfl, hb⟩
      have LV := Lib.hid (LV.out.below hb)
      have Oq := Lib.hid (Oq.out.below hb)
      have Br := Lib.hid (Br.out.below hb)
      have Ow := Lib.hid (Ow.out.below hb)
      have VW := Lib.hid (VW.out.below hb)
      have Ox := Lib.hid (Ox.out.below hb)
      have VX := Lib.hid (VX.out.below hb)
      have By := Lib.hid (By.out.below hb)
      have Og := Lib.hid (Og.out.below hb)
      have VG := Lib.hid (VG.out.below hb)
      have Bz := Lib.hid (Bz.out.below hb)
      have HB := Lib.hid (HB.out.trans (hb.mono HB.out.size))
      have hs_w15 : w14.heap.size ≤ w15.heap.size := hb.size
      clear hb
      obtain ⟨vx_0, vx_1, vx_2⟩ := VX.out.cells
      go_wp2_with fail
      clear vx_0 vx_1 vx_2
      refine (mark_card d f _ ax cx l HLEN.out _ Ox.out).mono ?_
      rintro e w16 ⟨rfl, hmk, hg⟩
      have LV := Lib.hid (LV.out.mark hg (fun k e => by have h1 := Nx.out k e; omega))
      have Oq := Lib.hid (Own.mark Oq.out hg (fun k k2 e e2 => by have h1 := Nx.out k2 e2; have h2 := Nq.out k e; omega))
      have Br := Lib.hid (OwnB.mark Br.out hg (fun k k2 e e2 => by have h1 := Nx.out k2 e2; have h2 := Nr.out k e; omega))
      have Ow := Lib.hid (Own.mark Ow.out hg (fun k k2 e e2 => by have h1 := Nx.out k2 e2; have h2 := Nw.out k e; omega))
      have VW := Lib.hid (VW.out.mark hg (fun k e => by have h1 := Nx.out k e; first | omega | exact fun e2 => ne_var Ox.out VW.out (by rw [e2]; exact e)))
      have VX := Lib.hid (VX.out.mark hg (fun k e => by have h1 := Nx.out k e; first | omega | exact fun e2 => ne_var Ox.out VX.out (by rw [e2]; exact e)))
      have By := Lib.hid (OwnB.mark By.out hg (fun k k2 e e2 => by have h1 := Nx.out k2 e2; have h2 := Ny.out k e; omega))
      have Og := Lib.hid (Own.mark Og.out hg (fun k k2 e e2 => by have h1 := Nx.out k2 e2; have h2 := Ng.out k e; omega))
      have VG := Lib.hid (VG.out.mark hg (fun k e => by have h1 := Nx.out k e; first | omega | exact fun e2 => ne_var Ox.out VG.out (by rw [e2]; exact e)))
      have Bz := Lib.hid (OwnB.mark Bz.out hg (fun k k2 e e2 => by have h1 := Nx.out k2 e2; have h2 := Nz.out k e; omega))
      have HB := Lib.hid (HB.out.grown hg HB.out.size (fun k e => by have h1 := Nx.out k e; omega))
      have hs_w16 : w15.heap.size ≤ w16.heap.size := hg.size
      have Ox := Lib.hid hmk
      clear hmk hg
      go_wp2_with fail
      refine (mark_boxes (1 + (l.length : Int)) (by omega) (by omega) _ by_ dy bs HLB.out _ By.out).mono ?_
      rintro e w17 ⟨rfl, hmk, hg⟩
      have LV := Lib.hid (LV.out.mark hg (fun k e => by have h1 := Ny.out k e; omega))
      have Oq := Lib.hid (Own.mark Oq.out hg (fun k k2 e e2 => by have h1 := Ny.out k2 e2; have h2 := Nq.out k e; omega))
      have Br := Lib.hid (OwnB.mark Br.out hg (fun k k2 e e2 => by have h1 := Ny.out k2 e2; have h2 := Nr.out k e; omega))
      have Ow := Lib.hid (Own.mark Ow.out hg (fun k k2 e e2 => by have h1 := Ny.out k2 e2; have h2 := Nw.out k e; omega))
      have VW := Lib.hid (VW.out.mark hg (fun k e => by have h1 := Ny.out k e; first | omega | exact fun e2 => ne_var By.out VW.out (by rw [e2]; exact e)))
      have Ox := Lib.hid (Own.mark Ox.out hg (fun k k2 e e2 => by have h1 := Ny.out k2 e2; have h2 := Nx.out k e; omega))
      have VX := Lib.hid (VX.out.mark hg (fun k e => by have h1 := Ny.out k e; first | omega | exact fun e2 => ne_var By.out VX.out (by rw [e2]; exact e)))
      have Og := Lib.hid (Own.mark Og.out hg (fun k k2 e e2 => by have h1 := Ny.out k2 e2; have h2 := Ng.out k e; omega))
      have VG := Lib.hid (VG.out.mark hg (fun k e => by have h1 := Ny.out k e; first | omega | exact fun e2 => ne_var By.out VG.out (by rw [e2]; exact e)))
      have Bz := Lib.hid (OwnB.mark Bz.out hg (fun k k2 e e2 => by have h1 := Ny.out k2 e2; have h2 := Nz.out k e; omega))
      have HB := Lib.hid (HB.out.grown hg HB.out.size (fun k e => by have h1 := Ny.out k e; omega))
      have hs_w17 : w16.heap.size ≤ w17.heap.size := hg.size
      have By := Lib.hid hmk
      clear hmk hg
      have hkk : decide (1 + (l.length : Int) + 3 * (bs.length : Int) < 0) = false := decide_eq_false (by omega)
      obtain ⟨vg_0, vg_1, vg_2⟩ := VG.out.cells
      obtain ⟨vw_0, vw_1, vw_2⟩ := VW.out.cells
      go_wp2_with fail
      clear vg_0 vg_1 vg_2 vw_0 vw_1 vw_2
      refine (eq_card d f M.length cg cw ag aw M rfl hm2 _ Og.out.row2.2 Ow.out.row2.2).mono ?_
      rintro e w18 ⟨rfl, hb⟩
      have LV := Lib.hid (LV.out.below hb)
      have Oq := Lib.hid (Oq.out.below hb)
      have Br := Lib.hid (Br.out.below hb)
      have Ow := Lib.hid (Ow.out.below hb)
      have VW := Lib.hid (VW.out.below hb)
      have Ox := Lib.hid (Ox.out.below hb)
      have VX := Lib.hid (VX.out.below hb)
      have By := Lib.hid (By.out.below hb)
      have Og := Lib.hid (Og.out.below hb)
      have VG := Lib.hid (VG.out.below hb)
      have Bz := Lib.hid (Bz.out.below hb)
      have HB := Lib.hid (HB.out.trans (hb.mono HB.out.size))
      have hs_w18 : w17.heap.size ≤ w18.heap.size := hb.size
      clear hb
      obtain ⟨vg_0, vg_1, vg_2⟩ := VG.out.cells
      go_wp2_with fail
      clear vg_0 vg_1 vg_2
      refine (mark_card d f _ ag cg M hm2 _ Og.out).mono ?_
      rintro e w19 ⟨rfl, hmk, hg⟩
      have LV := Lib.hid (LV.out.mark hg (fun k e => by have h1 := Ng.out k e; omega))
      have Oq := Lib.hid (Own.mark Oq.out hg (fun k k2 e e2 => by have h1 := Ng.out k2 e2; have h2 := Nq.out k e; omega))
      have Br := Lib.hid (OwnB.mark Br.out hg (fun k k2 e e2 => by have h1 := Ng.out k2 e2; have h2 := Nr.out k e; omega))
      have Ow := Lib.hid (Own.mark Ow.out hg (fun k k2 e e2 => by have h1 := Ng.out k2 e2; have h2 := Nw.out k e; omega))
      have VW := Lib.hid (VW.out.mark hg (fun k e => by have h1 := Ng.out k e; first | omega | exact fun e2 => ne_var Og.out VW.out (by rw [e2]; exact e)))
      have Ox := Lib.hid (Own.mark Ox.out hg (fun k k2 e e2 => by have h1 := Ng.out k2 e2; have h2 := Nx.out k e; omega))
      have VX := Lib.hid (VX.out.mark hg (fun k e => by have h1 := Ng.out k e; first | omega | exact fun e2 => ne_var Og.out VX.out (by rw [e2]; exact e)))
      have By := Lib.hid (OwnB.mark By.out hg (fun k k2 e e2 => by have h1 := Ng.out k2 e2; have h2 := Ny.out k e; omega))
      have VG := Lib.hid (VG.out.mark hg (fun k e => by have h1 := Ng.out k e; first | omega | exact fun e2 => ne_var Og.out VG.out (by rw [e2]; exact e)))
      have Bz := Lib.hid (OwnB.mark Bz.out hg (fun k k2 e e2 => by have h1 := Ng.out k2 e2; have h2 := Nz.out k e; omega))
      have HB := Lib.hid (HB.out.grown hg HB.out.size (fun k e => by have h1 := Ng.out k e; omega))
      have hs_w19 : w18.heap.size ≤ w19.heap.size := hg.size
      have Og := Lib.hid hmk
      clear hmk hg
      obtain ⟨vg_0, vg_1, vg_2⟩ := VG.out.cells
      go_wp2_with fail
      clear vg_0 vg_1 vg_2
      refine (held_card d f _ ag M.length cg hm2 _ Og.out).mono ?_
      rintro e w20 ⟨rfl, hb⟩
      have LV := Lib.hid (LV.out.below hb)
      have Oq := Lib.hid (Oq.out.below hb)
      have Br := Lib.hid (Br.out.below hb)
      have Ow := Lib.hid (Ow.out.below hb)
      have VW := Lib.hid (VW.out.below hb)
      have Ox := Lib.hid (Ox.out.below hb)
      have VX := Lib.hid (VX.out.below hb)
      have By := Lib.hid (By.out.below hb)
      have Og := Lib.hid (Og.out.below hb)
      have VG := Lib.hid (VG.out.below hb)
      have Bz := Lib.hid (Bz.out.below hb)
      have HB := Lib.hid (HB.out.trans (hb.mono HB.out.size))
      have hs_w20 : w19.heap.size ≤ w20.heap.size := hb.size
      clear hb
      obtain ⟨lv_0, lv_1, lv_2⟩ := LV.out.cells
      go_wp2_with fail
      clear lv_0 lv_1 lv_2
      refine (to_card d f a l.length c l _ rfl HLEN.out (HR.out.since (Nat.le_refl _) HB.out)).mono ?_
      rintro e w21 ⟨ap, cp, rfl, hb, ho⟩
      have LV := Lib.hid (LV.out.below hb)
      have Oq := Lib.hid (Oq.out.below hb)
      have Br := Lib.hid (Br.out.below hb)
      have Ow := Lib.hid (Ow.out.below hb)
      have VW := Lib.hid (VW.out.below hb)
      have Ox := Lib.hid (Ox.out.below hb)
      have VX := Lib.hid (VX.out.below hb)
      have By := Lib.hid (By.out.below hb)
      have Og := Lib.hid (Og.out.below hb)
      have VG := Lib.hid (VG.out.below hb)
      have Bz := Lib.hid (Bz.out.below hb)
      have HB := Lib.hid (HB.out.trans (hb.mono HB.out.size))
      have hs_w21 : w20.heap.size ≤ w21.heap.size := hb.size
      clear hb
      have Op := Lib.hid ho
      have Np := Lib.hid ho.lt
      clear ho
      go_wp2_with fail
      refine (to_boxes ab cb bs _ HLB.out (HRB.out.below HB.out)).mono ?_
      rintro e w22 ⟨vb, rfl, hb, hob⟩
      obtain ⟨bs, ds, rfl, _, _⟩ := hob.row
      have LV := Lib.hid (LV.out.below hb)
      have Oq := Lib.hid (Oq.out.below hb)
      have Br := Lib.hid (Br.out.below hb)
      have Ow := Lib.hid (Ow.out.below hb)
      have VW := Lib.hid (VW.out.below hb)
      have Ox := Lib.hid (Ox.out.below hb)
      have VX := Lib.hid (VX.out.below hb)
      have By := Lib.hid (By.out.below hb)
      have Og := Lib.hid (Og.out.below hb)
      have VG := Lib.hid (VG.out.below hb)
      have Bz := Lib.hid (Bz.out.below hb)
      have Op := Lib.hid (Op.out.below hb)
      have HB := Lib.hid (HB.out.trans (hb.mono HB.out.size))
      have hs_w22 : w21.heap.size ≤ w22.heap.size := hb.size
      clear hb
      have Bs := Lib.hid hob
      have Ns := Lib.hid hob.lt
      clear hob
      go_wp2_with fail
      refine (HIM.out _ _ _ _ _ _ Op.out Bs.out.row2.2).mono ?_
      rintro e w23 ⟨ah, ch, rfl, hb, ho⟩
      have LV := Lib.hid (LV.out.below hb)
      have Oq := Lib.hid (Oq.out.below hb)
      have Br := Lib.hid (Br.out.below hb)
      have Ow := Lib.hid (Ow.out.below hb)
      have VW := Lib.hid (VW.out.below hb)
      have Ox := Lib.hid (Ox.out.below hb)
      have VX := Lib.hid (VX.out.below hb)
      have By := Lib.hid (By.out.below hb)
      have Og := Lib.hid (Og.out.below hb)
      have VG := Lib.hid (VG.out.below hb)
      have Bz := Lib.hid (Bz.out.below hb)
      have Op := Lib.hid (Op.out.below hb)
      have Bs := Lib.hid (Bs.out.below hb)
      have HB := Lib.hid (HB.out.trans (hb.mono HB.out.size))
      have hs_w23 : w22.heap.size ≤ w23.heap.size := hb.size
      clear hb
      have Oh := Lib.hid ho
      have Nh := Lib.hid ho.lt
      clear ho
      obtain ⟨vw_0, vw_1, vw_2⟩ := (VW.out.below (alloc_below w23 (.cells #[.int .i64 d, .int .i64 f, .slice ah M.length ch] 26))).cells
      go_wp2_with fail
      clear vw_0 vw_1 vw_2
      have hv0 := Var.new w23 d f (.slice ah M.length ch)
      have hb := alloc_below w23 (.cells #[.int .i64 d, .int .i64 f, .slice ah M.length ch] 26)
      have LV := Lib.hid (LV.out.below hb)
      have Oq := Lib.hid (Oq.out.below hb)
      have Br := Lib.hid (Br.out.below hb)
      have Ow := Lib.hid (Ow.out.below hb)
      have VW := Lib.hid (VW.out.below hb)
      have Ox := Lib.hid (Ox.out.below hb)
      have VX := Lib.hid (VX.out.below hb)
      have By := Lib.hid (By.out.below hb)
      have Og := Lib.hid (Og.out.below hb)
      have VG := Lib.hid (VG.out.below hb)
      have Bz := Lib.hid (Bz.out.below hb)
      have Op := Lib.hid (Op.out.below hb)
      have Bs := Lib.hid (Bs.out.below hb)
      have Oh := Lib.hid (Oh.out.below hb)
      have HB := Lib.hid (HB.out.trans (hb.mono HB.out.size))
      have hs_w24 : w23.heap.size < (w23.alloc (.cells #[.int .i64 d, .int .i64 f, .slice ah M.length ch] 26)).heap.size := hv0.lt
      have VH := Lib.hid hv0
      clear hv0 hb
      generalize (w23.alloc (.cells #[.int .i64 d, .int .i64 f, .slice ah M.length ch] 26)) = w24 at *
      refine (eq_card d f M.length ch cw ah aw M rfl hm2 _ Oh.out.row2.2 Ow.out.row2.2).mono ?_
      rintro e w25 ⟨rfl, hb⟩
      have LV := Lib.hid (LV.out.below hb)
      have Oq := Lib.hid (Oq.out.below hb)
      have Br := Lib.hid (Br.out.below hb)
      have Ow := Lib.hid (Ow.out.below hb)
      have VW := Lib.hid (VW.out.below hb)
      have Ox := Lib.hid (Ox.out.below hb)
      have VX := Lib.hid (VX.out.below hb)
      have By := Lib.hid (By.out.below hb)
      have Og := Lib.hid (Og.out.below hb)
      have VG := Lib.hid (VG.out.below hb)
      have Bz := Lib.hid (Bz.out.below hb)
      have Op := Lib.hid (Op.out.below hb)
      have Bs := Lib.hid (Bs.out.below hb)
      have Oh := Lib.hid (Oh.out.below hb)
      have VH := Lib.hid (VH.out.below hb)
      have HB := Lib.hid (HB.out.trans (hb.mono HB.out.size))
      have hs_w25 : w24.heap.size ≤ w25.heap.size := hb.size
      clear hb
      obtain ⟨vg_0, vg_1, vg_2⟩ := VG.out.cells
      go_wp2_with fail
      clear vg_0 vg_1 vg_2
      refine (held_card d f _ ag M.length cg hm2 _ Og.out).mono ?_
      rintro e w26 ⟨rfl, hb⟩
      have LV := Lib.hid (LV.out.below hb)
      have Oq := Lib.hid (Oq.out.below hb)
      have Br := Lib.hid (Br.out.below hb)
      have Ow := Lib.hid (Ow.out.below hb)
      have VW := Lib.hid (VW.out.below hb)
      have Ox := Lib.hid (Ox.out.below hb)
      have VX := Lib.hid (VX.out.below hb)
      have By := Lib.hid (By.out.below hb)
      have Og := Lib.hid (Og.out.below hb)
      have VG := Lib.hid (VG.out.below hb)
      have Bz := Lib.hid (Bz.out.below hb)
      have Op := Lib.hid (Op.out.below hb)
      have Bs := Lib.hid (Bs.out.below hb)
      have Oh := Lib.hid (Oh.out.below hb)
      have VH := Lib.hid (VH.out.below hb)
      have HB := Lib.hid (HB.out.trans (hb.mono HB.out.size))
      have hs_w26 : w25.heap.size ≤ w26.heap.size := hb.size
      clear hb
      go_wp2
      go_ret
      exact ⟨rfl, HB.out⟩
end Go.Proofs.Ytekmladindlmoaa.Box
