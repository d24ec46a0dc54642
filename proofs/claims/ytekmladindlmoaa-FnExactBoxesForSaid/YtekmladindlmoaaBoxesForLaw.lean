/- The law of BoxesFor: the walk (printed by wip/gen_forlaw.py). -/
import Derived.Test.YtekmladindlmoaaBoxRow2
import Derived.Test.YtekmladindlmoaaBoxForSpec
import Derived.Deep.RegionHeld3
namespace Go.Proofs.Ytekmladindlmoaa.Box
open Go.ChangeShapes Go.WideShapes Go.ChangeAt Go.RowKit
open Go.Proofs.Ytekmladindlmoaa.Strip Go.Proofs.Ytekmladindlmoaa.Strs Go.Proofs.Ytekmladindlmoaa.Card
set_option linter.unusedVariables false

set_option maxRecDepth 100000 in
set_option maxHeartbeats 16000000 in
theorem exactBoxesFor (d f : Int) (a : Option Addr) (c : Nat) (l : List ByteArray) (w : World) (hn : l.length ≤ maxLen) (hz : ∀ s ∈ l, s.size ≤ maxLen) (hr : ARow w a l) :
    Calls Try.prog 8 #[.agg #[.int .i64 d, .int .i64 f, .slice a l.length c]] w fun e w' => e = .returned (.bool true) ∧ Below w.heap.size w w' := by
  have HSZ := Lib.hid (fun (w' : World) (hr : ARow w' a l) => sz_card 1048576 (by omega) (by omega) d f a l.length c l w' rfl hn hz hr)
  have HR := Lib.hid hr
  have HB := Lib.hid (Below.refl w.heap.size w)
  have hnx := hn
  unfold maxLen at hnx
  by_cases hneg : szV 1048576 l < 0
  · rw [sz_big hneg] at HSZ
    clear hr hz hneg
    go_enter Try.func8, Try.ntmps8
    go_wp2_with fail
    refine (HSZ.out _ (HR.out.below (alloc_below _ _))).mono ?_
    rintro e w1 ⟨rfl, hb⟩
    go_wp2
    go_ret
    exact ⟨rfl, (alloc_below w _).trans (hb.mono (by simp))⟩
  · obtain ⟨g1, g2, g3, g4⟩ := szV_ok hneg
    have HLEN := Lib.hid (show l.length ≤ 1048576 by omega)
    have HZ1 := Lib.hid (show ∀ s ∈ l, s.size ≤ 1048576 from fun s hs => by have := g2 s hs; omega)
    clear g2
    generalize szV 1048576 l = r at *
    clear g1 hneg hz hr
    have hsp := fun (w' : World) (x : Nat) (a' : Option Addr) (c' : Nat) (h : Own w' x (.slice a' l.length c') l) => for_spec d f x l.length c' a' l w' HLEN.out h HZ1.out
    have him := fun (w' : World) (x : Nat) (a' : Option Addr) (c' : Nat) (h : Own w' x (.slice a' l.length c') l) => for_impl d f x l.length c' a' l w' HLEN.out h HZ1.out
    unfold GaveBs at hsp him
    have hlb := boxesL_len d f l
    generalize boxesL d f l = bs at *
    have HLB := Lib.hid (show bs.length ≤ 1048576 by omega)
    have hk0 : (0 : Int) ≤ (bs.length : Int) := Int.natCast_nonneg _
    have hk1 : (bs.length : Int) ≤ 1048576 := by omega
    generalize cardB d f l = ok at *
    have HSP := Lib.hid hsp
    have HIM := Lib.hid him
    clear hsp him hlb
    have hok : (ok != ok) = false := by simp
    have hqq : ((1 + 3 * (bs.length : Int)) != (1 + 3 * (bs.length : Int))) = false := by simp
    have hkk : decide (1 + 3 * (bs.length : Int) < 0) = false := decide_eq_false (by omega)
    have hl0 : (0 : Int) ≤ (l.length : Int) := Int.natCast_nonneg _
    have hl1 : (l.length : Int) ≤ 1048576 := by have := HLEN.out; omega
    go_enter Try.func8, Try.ntmps8
    go_wp2_with fail
    have LV := Lib.hid (LVar.new w d f (.slice a l.length c))
    have hs_w1 : w.heap.size < (w.alloc (.cells #[.int .i64 d, .int .i64 f, .slice a l.length c] 45)).heap.size := LV.out.lt
    have HB := Lib.hid (HB.out.alloc HB.out.size (.cells #[.int .i64 d, .int .i64 f, .slice a l.length c] 45))
    generalize (w.alloc (.cells #[.int .i64 d, .int .i64 f, .slice a l.length c] 45)) = w1 at *
    refine (HSZ.out _ (HR.out.since (Nat.le_refl _) HB.out)).mono ?_
    rintro e w2 ⟨rfl, hb⟩
    have LV := Lib.hid (LV.out.below hb)
    have HB := Lib.hid (HB.out.trans (hb.mono HB.out.size))
    have hs_w2 : w1.heap.size ≤ w2.heap.size := hb.size
    clear hb
    obtain ⟨lv_0, lv_1, lv_2⟩ := LV.out.cells
    go_wp2_with fail
    clear lv_0 lv_1 lv_2
    refine (to_card d f a l.length c l _ rfl HLEN.out (HR.out.since (Nat.le_refl _) HB.out)).mono ?_
    rintro e w3 ⟨aq, cq, rfl, hb, ho⟩
    have LV := Lib.hid (LV.out.below hb)
    have HB := Lib.hid (HB.out.trans (hb.mono HB.out.size))
    have hs_w3 : w2.heap.size ≤ w3.heap.size := hb.size
    clear hb
    have Oq := Lib.hid ho
    have Nq := Lib.hid ho.lt
    clear ho
    go_wp2_with fail
    refine (HSP.out _ _ _ _ Oq.out).mono ?_
    rintro e w4 ⟨vb, rfl, hb, hob⟩
    obtain ⟨bw, dw, rfl, _, _⟩ := hob.row
    have LV := Lib.hid (LV.out.below hb)
    have Oq := Lib.hid (Oq.out.below hb)
    have HB := Lib.hid (HB.out.trans (hb.mono HB.out.size))
    have hs_w4 : w3.heap.size ≤ w4.heap.size := hb.size
    clear hb
    have Bw := Lib.hid hob
    have Nw := Lib.hid hob.lt
    clear hob
    obtain ⟨lv_0, lv_1, lv_2⟩ := LV.out.cells
    go_wp2_with fail
    clear lv_0 lv_1 lv_2
    refine (to_card d f a l.length c l _ rfl HLEN.out (HR.out.since (Nat.le_refl _) HB.out)).mono ?_
    rintro e w5 ⟨ax, cx, rfl, hb, ho⟩
    have LV := Lib.hid (LV.out.below hb)
    have Oq := Lib.hid (Oq.out.below hb)
    have Bw := Lib.hid (Bw.out.below hb)
    have HB := Lib.hid (HB.out.trans (hb.mono HB.out.size))
    have hs_w5 : w4.heap.size ≤ w5.heap.size := hb.size
    clear hb
    have Ox := Lib.hid ho
    have Nx := Lib.hid ho.lt
    clear ho
    go_wp2_with fail
    have hv0 := Var.new w5 d f (.slice ax l.length cx)
    have hb := alloc_below w5 (.cells #[.int .i64 d, .int .i64 f, .slice ax l.length cx] 26)
    have LV := Lib.hid (LV.out.below hb)
    have Oq := Lib.hid (Oq.out.below hb)
    have Bw := Lib.hid (Bw.out.below hb)
    have Ox := Lib.hid (Ox.out.below hb)
    have HB := Lib.hid (HB.out.trans (hb.mono HB.out.size))
    have hs_w6 : w5.heap.size < (w5.alloc (.cells #[.int .i64 d, .int .i64 f, .slice ax l.length cx] 26)).heap.size := hv0.lt
    have VX := Lib.hid hv0
    clear hv0 hb
    generalize (w5.alloc (.cells #[.int .i64 d, .int .i64 f, .slice ax l.length cx] 26)) = w6 at *
    refine (HIM.out _ _ _ _ Ox.out).mono ?_
    rintro e w7 ⟨vb, rfl, hb, hob⟩
    obtain ⟨bg, dg, rfl, _, _⟩ := hob.row
    have LV := Lib.hid (LV.out.below hb)
    have Oq := Lib.hid (Oq.out.below hb)
    have Bw := Lib.hid (Bw.out.below hb)
    have Ox := Lib.hid (Ox.out.below hb)
    have VX := Lib.hid (VX.out.below hb)
    have HB := Lib.hid (HB.out.trans (hb.mono HB.out.size))
    have hs_w7 : w6.heap.size ≤ w7.heap.size := hb.size
    clear hb
    have Bg := Lib.hid hob
    have Ng := Lib.hid hob.lt
    clear hob
    go_wp2_with fail
    refine (eq_boxes bs.length dg dw bg bw bs rfl (by have := HLB.out; unfold maxLen; omega) _ Bg.out.row2.2 Bw.out.row2.2).mono ?_
    rintro e w8 ⟨rfl, hb⟩
    have LV := Lib.hid (LV.out.below hb)
    have Oq := Lib.hid (Oq.out.below hb)
    have Bw := Lib.hid (Bw.out.below hb)
    have Ox := Lib.hid (Ox.out.below hb)
    have VX := Lib.hid (VX.out.below hb)
    have Bg := Lib.hid (Bg.out.below hb)
    have HB := Lib.hid (HB.out.trans (hb.mono HB.out.size))
    have hs_w8 : w7.heap.size ≤ w8.heap.size := hb.size
    clear hb
    obtain ⟨vx_0, vx_1, vx_2⟩ := VX.out.cells
    obtain ⟨lv_0, lv_1, lv_2⟩ := LV.out.cells
    go_wp2_with fail
    have S0 : w8.cell? ⟨w5.heap.size, 0, none⟩ = some (.int .i64 d) ∧ w8.cell? ⟨w5.heap.size, 1, none⟩ = some (.int .i64 f) ∧ w8.cell? ⟨w5.heap.size, 2, none⟩ = some (.slice ax l.length cx) ∧ w8.cell? ⟨w.heap.size, 0, none⟩ = some (.int .i64 d) ∧ w8.cell? ⟨w.heap.size, 1, none⟩ = some (.int .i64 f) ∧ w8.cell? ⟨w.heap.size, 2, none⟩ = some (.slice a l.length c) ∧ Below w8.heap.size w8 w8 := ⟨vx_0, vx_1, vx_2, lv_0, lv_1, lv_2, Below.refl _ _⟩
    have HTO := Lib.hid (fun (w' : World) (hb : Below w8.heap.size w8 w') => to_card d f a l.length c l w' rfl HLEN.out (HR.out.since (Nat.le_refl _) (HB.out.trans (hb.mono HB.out.size))))
    have HXR := Lib.hid (fun (w' : World) (hb : Below w8.heap.size w8 w') => (Ox.out.below hb).row2.2)
    go_region_held3 (fun w' => w'.cell? ⟨w5.heap.size, 0, none⟩ = some (.int .i64 d) ∧ w'.cell? ⟨w5.heap.size, 1, none⟩ = some (.int .i64 f) ∧ w'.cell? ⟨w5.heap.size, 2, none⟩ = some (.slice ax l.length cx) ∧ w'.cell? ⟨w.heap.size, 0, none⟩ = some (.int .i64 d) ∧ w'.cell? ⟨w.heap.size, 1, none⟩ = some (.int .i64 f) ∧ w'.cell? ⟨w.heap.size, 2, none⟩ = some (.slice a l.length c) ∧ Below w8.heap.size w8 w')
      (first | exact S0 | exact eqs_drew S0 | exact eqs_next (by assumption) hb | exact eqs_next (by assumption) hb2 | exact eqs_next (by assumption) hb3 | exact eqs_drew (by assumption) | assumption)
      ((first | (go_at_call 25; refine (HTO.out _ (eqs_below (by assumption))).mono ?_; rintro e wy ⟨at_, ct_, rfl, hb, hoy⟩; have OY := Lib.hid hoy; clear hoy) | (go_at_call 27; refine (eq_card d f l.length cx ct_ ax at_ l rfl HLEN.out _ (HXR.out _ (eqs_below (by assumption))) (OY.out.row2.2)).mono ?_; rintro e wz1 ⟨rfl, hb2⟩)))
    have hbz : Below w8.heap.size w8 wz1 := eqs_below (w' := wz1) (by assumption)
    clear S0 HTO HXR hb hb2 OY
    clear vx_0 vx_1 vx_2 lv_0 lv_1 lv_2
    have LV := Lib.hid (LV.out.below hbz)
    have Oq := Lib.hid (Oq.out.below hbz)
    have Bw := Lib.hid (Bw.out.below hbz)
    have Ox := Lib.hid (Ox.out.below hbz)
    have VX := Lib.hid (VX.out.below hbz)
    have Bg := Lib.hid (Bg.out.below hbz)
    have HB := Lib.hid (HB.out.trans (hbz.mono HB.out.size))
    have hs_wz1 : w8.heap.size ≤ wz1.heap.size := hbz.size
    clear hbz
    obtain ⟨vx_0, vx_1, vx_2⟩ := VX.out.cells
    go_wp2_with fail
    clear vx_0 vx_1 vx_2
    refine (mark_card d f _ ax cx l HLEN.out _ Ox.out).mono ?_
    rintro e w9 ⟨rfl, hmk, hg⟩
    have LV := Lib.hid (LV.out.mark hg (fun k e => by have h1 := Nx.out k e; omega))
    have Oq := Lib.hid (Own.mark Oq.out hg (fun k k2 e e2 => by have h1 := Nx.out k2 e2; have h2 := Nq.out k e; omega))
    have Bw := Lib.hid (OwnB.mark Bw.out hg (fun k k2 e e2 => by have h1 := Nx.out k2 e2; have h2 := Nw.out k e; omega))
    have VX := Lib.hid (VX.out.mark hg (fun k e => by have h1 := Nx.out k e; first | omega | exact fun e2 => ne_var Ox.out VX.out (by rw [e2]; exact e)))
    have Bg := Lib.hid (OwnB.mark Bg.out hg (fun k k2 e e2 => by have h1 := Nx.out k2 e2; have h2 := Ng.out k e; omega))
    have HB := Lib.hid (HB.out.grown hg HB.out.size (fun k e => by have h1 := Nx.out k e; omega))
    have hs_w9 : wz1.heap.size ≤ w9.heap.size := hg.size
    have Ox := Lib.hid hmk
    clear hmk hg
    go_wp2_with fail
    refine (eq_boxes bs.length dg dw bg bw bs rfl (by have := HLB.out; unfold maxLen; omega) _ Bg.out.row2.2 Bw.out.row2.2).mono ?_
    rintro e w10 ⟨rfl, hb⟩
    have LV := Lib.hid (LV.out.below hb)
    have Oq := Lib.hid (Oq.out.below hb)
    have Bw := Lib.hid (Bw.out.below hb)
    have Ox := Lib.hid (Ox.out.below hb)
    have VX := Lib.hid (VX.out.below hb)
    have Bg := Lib.hid (Bg.out.below hb)
    have HB := Lib.hid (HB.out.trans (hb.mono HB.out.size))
    have hs_w10 : w9.heap.size ≤ w10.heap.size := hb.size
    clear hb
    go_wp2_with fail
    refine (mark_boxes 1 (by omega) (by omega) _ bg dg bs HLB.out _ Bg.out).mono ?_
    rintro e w11 ⟨rfl, hmk, hg⟩
    have LV := Lib.hid (LV.out.mark hg (fun k e => by have h1 := Ng.out k e; omega))
    have Oq := Lib.hid (Own.mark Oq.out hg (fun k k2 e e2 => by have h1 := Ng.out k2 e2; have h2 := Nq.out k e; omega))
    have Bw := Lib.hid (OwnB.mark Bw.out hg (fun k k2 e e2 => by have h1 := Ng.out k2 e2; have h2 := Nw.out k e; omega))
    have Ox := Lib.hid (Own.mark Ox.out hg (fun k k2 e e2 => by have h1 := Ng.out k2 e2; have h2 := Nx.out k e; omega))
    have VX := Lib.hid (VX.out.mark hg (fun k e => by have h1 := Ng.out k e; first | omega | exact fun e2 => ne_var Bg.out VX.out (by rw [e2]; exact e)))
    have HB := Lib.hid (HB.out.grown hg HB.out.size (fun k e => by have h1 := Ng.out k e; omega))
    have hs_w11 : w10.heap.size ≤ w11.heap.size := hg.size
    have Bg := Lib.hid hmk
    clear hmk hg
    go_wp2_with fail
    refine (held_boxes 1 (by omega) (by omega) bg bs.length dg HLB.out _ Bg.out.row2.2).mono ?_
    rintro e w12 ⟨rfl, hb⟩
    have LV := Lib.hid (LV.out.below hb)
    have Oq := Lib.hid (Oq.out.below hb)
    have Bw := Lib.hid (Bw.out.below hb)
    have Ox := Lib.hid (Ox.out.below hb)
    have VX := Lib.hid (VX.out.below hb)
    have Bg := Lib.hid (Bg.out.below hb)
    have HB := Lib.hid (HB.out.trans (hb.mono HB.out.size))
    have hs_w12 : w11.heap.size ≤ w12.heap.size := hb.size
    clear hb
    obtain ⟨lv_0, lv_1, lv_2⟩ := LV.out.cells
    go_wp2_with fail
    clear lv_0 lv_1 lv_2
    refine (to_card d f a l.length c l _ rfl HLEN.out (HR.out.since (Nat.le_refl _) HB.out)).mono ?_
    rintro e w13 ⟨ap, cp, rfl, hb, ho⟩
    have LV := Lib.hid (LV.out.below hb)
    have Oq := Lib.hid (Oq.out.below hb)
    have Bw := Lib.hid (Bw.out.below hb)
    have Ox := Lib.hid (Ox.out.below hb)
    have VX := Lib.hid (VX.out.below hb)
    have Bg := Lib.hid (Bg.out.below hb)
    have HB := Lib.hid (HB.out.trans (hb.mono HB.out.size))
    have hs_w13 : w12.heap.size ≤ w13.heap.size := hb.size
    clear hb
    have Op := Lib.hid ho
    have Np := Lib.hid ho.lt
    clear ho
    go_wp2_with fail
    refine (HIM.out _ _ _ _ Op.out).mono ?_
    rintro e w14 ⟨vb, rfl, hb, hob⟩
    obtain ⟨bh, dh, rfl, _, _⟩ := hob.row
    have LV := Lib.hid (LV.out.below hb)
    have Oq := Lib.hid (Oq.out.below hb)
    have Bw := Lib.hid (Bw.out.below hb)
    have Ox := Lib.hid (Ox.out.below hb)
    have VX := Lib.hid (VX.out.below hb)
    have Bg := Lib.hid (Bg.out.below hb)
    have Op := Lib.hid (Op.out.below hb)
    have HB := Lib.hid (HB.out.trans (hb.mono HB.out.size))
    have hs_w14 : w13.heap.size ≤ w14.heap.size := hb.size
    clear hb
    have Bh := Lib.hid hob
    have Nh := Lib.hid hob.lt
    clear hob
    go_wp2_with fail
    refine (eq_boxes bs.length dh dw bh bw bs rfl (by have := HLB.out; unfold maxLen; omega) _ Bh.out.row2.2 Bw.out.row2.2).mono ?_
    rintro e w15 ⟨rfl, hb⟩
    have LV := Lib.hid (LV.out.below hb)
    have Oq := Lib.hid (Oq.out.below hb)
    have Bw := Lib.hid (Bw.out.below hb)
    have Ox := Lib.hid (Ox.out.below hb)
    have VX := Lib.hid (VX.out.below hb)
    have Bg := Lib.hid (Bg.out.below hb)
    have Op := Lib.hid (Op.out.below hb)
    have Bh := Lib.hid (Bh.out.below hb)
    have HB := Lib.hid (HB.out.trans (hb.mono HB.out.size))
    have hs_w15 : w14.heap.size ≤ w15.heap.size := hb.size
    clear hb
    go_wp2_with fail
    refine (held_boxes 1 (by omega) (by omega) bg bs.length dg HLB.out _ Bg.out.row2.2).mono ?_
    rintro e w16 ⟨rfl, hb⟩
    have LV := Lib.hid (LV.out.below hb)
    have Oq := Lib.hid (Oq.out.below hb)
    have Bw := Lib.hid (Bw.out.below hb)
    have Ox := Lib.hid (Ox.out.below hb)
    have VX := Lib.hid (VX.out.below hb)
    have Bg := Lib.hid (Bg.out.below hb)
    have Op := Lib.hid (Op.out.below hb)
    have Bh := Lib.hid (Bh.out.below hb)
    have HB := Lib.hid (HB.out.trans (hb.mono HB.out.size))
    have hs_w16 : w15.heap.size ≤ w16.heap.size := hb.size
    clear hb
    go_wp2
    go_ret
    exact ⟨rfl, HB.out⟩
end Go.Proofs.Ytekmladindlmoaa.Box
