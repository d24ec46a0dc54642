/- The law of SymmetrizeCard: the walk, out of what the model and the program return (printed by wip/gen_cardlaw.py). -/
import Derived.Test.YtoampghmikamlaaCardLaw
import Derived.Test.YtoampghmikamlaaCardSz
namespace Go.Proofs.Ytoampghmikamlaa.Card
open Go.ChangeShapes Go.WideShapes Go.ChangeAt Go.RowKit
open Go.Proofs.Ytoampghmikamlaa.Strip Go.Proofs.Ytoampghmikamlaa.Strs
set_option linter.unusedVariables false

set_option maxRecDepth 100000 in
set_option maxHeartbeats 8000000 in
theorem walkSymmetrizeCard (d f : Int) (a : Option Addr) (c : Nat) (l : List ByteArray) (d2 f2 : Int) (l2 : List ByteArray) (w : World) (hn : l.length ≤ 1048576) (hr : ARow w a l) (r : Int) (h0 : 0 ≤ r) (hsz : ∀ w' : World, ARow w' a l → Calls Try.prog 27 #[.agg #[.int .i64 d, .int .i64 f, .slice a l.length c], .int .i64 1048576] w' fun e w'' => e = .returned (.int .i64 r) ∧ Below w'.heap.size w' w'') (hm2 : l2.length ≤ 1048576) (hsp : ∀ (w' : World) (base : Nat) (a' : Option Addr) (c' : Nat), Own w' base (.slice a' l.length c') l → Calls Try.prog 37 #[.agg #[.int .i64 d, .int .i64 f, .slice a' l.length c']] w' (Gave w' d2 f2 l2)) (him : ∀ (w' : World) (base : Nat) (a' : Option Addr) (c' : Nat), Own w' base (.slice a' l.length c') l → Calls Try.prog 15 #[.agg #[.int .i64 d, .int .i64 f, .slice a' l.length c']] w' (Gave w' d2 f2 l2)) :
    Calls Try.prog 10 #[.agg #[.int .i64 d, .int .i64 f, .slice a l.length c]] w fun e w' => e = .returned (.bool true) ∧ Below w.heap.size w w' := by
  have HSP := Lib.hid hsp
  have HIM := Lib.hid him
  clear hsp him
  have hmm : (0 : Int) ≤ (l2.length : Int) := Int.natCast_nonneg _
  have hmm2 : (l2.length : Int) ≤ 1048576 := by omega
  have hqq : ((1 + (l2.length : Int)) != (1 + (l2.length : Int))) = false := by simp
  have HR := Lib.hid hr
  have HSZ := Lib.hid hsz
  clear hr hsz
  have hnn : (0 : Int) ≤ (l.length : Int) := Int.natCast_nonneg _
  have hnn2 : (l.length : Int) ≤ 1048576 := by omega
  have HB := Lib.hid (Below.refl w.heap.size w)
  go_enter Try.func10, Try.ntmps10
  go_wp2_with fail
  have hv0 := LVar.new w d f (.slice a l.length c)
  have hb := alloc_below w (.cells #[.int .i64 d, .int .i64 f, .slice a l.length c] 38)
  have HB := Lib.hid (HB.out.trans (hb.mono HB.out.size))
  have hs_w1 : w.heap.size < (w.alloc (.cells #[.int .i64 d, .int .i64 f, .slice a l.length c] 38)).heap.size := hv0.lt
  have LV := Lib.hid hv0
  clear hv0 hb
  generalize (w.alloc (.cells #[.int .i64 d, .int .i64 f, .slice a l.length c] 38)) = w1 at *
  refine (HSZ.out _ (HR.out.since (Nat.le_refl _) HB.out)).mono ?_
  rintro e w2 ⟨rfl, hb⟩
  have LV := Lib.hid (LV.out.below hb)
  have HB := Lib.hid (HB.out.trans (hb.mono HB.out.size))
  have hs_w2 : w1.heap.size ≤ w2.heap.size := hb.size
  clear hb
  obtain ⟨lv_0, lv_1, lv_2⟩ := LV.out.cells
  go_wp2_with fail
  clear lv_0 lv_1 lv_2
  refine (to_card d f a l.length c l _ rfl hn (HR.out.since (Nat.le_refl _) HB.out)).mono ?_
  rintro e w3 ⟨aq, cq, rfl, hb, ho⟩
  have LV := Lib.hid (LV.out.below hb)
  have HB := Lib.hid (HB.out.trans (hb.mono HB.out.size))
  have hs_w3 : w2.heap.size ≤ w3.heap.size := hb.size
  clear hb
  have Oq := Lib.hid ho
  have Nq := Lib.hid (ho.lt)
  clear ho
  go_wp2_with fail
  refine (HSP.out _ _ _ _ Oq.out).mono ?_
  rintro e w4 ⟨aw, cw, rfl, hb, ho⟩
  have LV := Lib.hid (LV.out.below hb)
  have Oq := Lib.hid (Oq.out.below hb)
  have HB := Lib.hid (HB.out.trans (hb.mono HB.out.size))
  have hs_w4 : w3.heap.size ≤ w4.heap.size := hb.size
  clear hb
  have Ow := Lib.hid ho
  have Nw := Lib.hid (ho.lt)
  clear ho
  obtain ⟨lv_0, lv_1, lv_2⟩ := (LV.out.below (alloc_below w4 (.cells #[.int .i64 d2, .int .i64 f2, .slice aw l2.length cw] 26))).cells
  go_wp2_with fail
  clear lv_0 lv_1 lv_2
  have hv0 := Var.new w4 d2 f2 (.slice aw l2.length cw)
  have hb := alloc_below w4 (.cells #[.int .i64 d2, .int .i64 f2, .slice aw l2.length cw] 26)
  have LV := Lib.hid (LV.out.below hb)
  have Oq := Lib.hid (Oq.out.below hb)
  have Ow := Lib.hid (Ow.out.below hb)
  have HB := Lib.hid (HB.out.trans (hb.mono HB.out.size))
  have hs_w5 : w4.heap.size < (w4.alloc (.cells #[.int .i64 d2, .int .i64 f2, .slice aw l2.length cw] 26)).heap.size := hv0.lt
  have VW := Lib.hid hv0
  clear hv0 hb
  generalize (w4.alloc (.cells #[.int .i64 d2, .int .i64 f2, .slice aw l2.length cw] 26)) = w5 at *
  refine (to_card d f a l.length c l _ rfl hn (HR.out.since (Nat.le_refl _) HB.out)).mono ?_
  rintro e w6 ⟨ax, cx, rfl, hb, ho⟩
  have LV := Lib.hid (LV.out.below hb)
  have Oq := Lib.hid (Oq.out.below hb)
  have Ow := Lib.hid (Ow.out.below hb)
  have VW := Lib.hid (VW.out.below hb)
  have HB := Lib.hid (HB.out.trans (hb.mono HB.out.size))
  have hs_w6 : w5.heap.size ≤ w6.heap.size := hb.size
  clear hb
  have Ox := Lib.hid ho
  have Nx := Lib.hid (ho.lt)
  clear ho
  go_wp2_with fail
  have hv0 := Var.new w6 d f (.slice ax l.length cx)
  have hb := alloc_below w6 (.cells #[.int .i64 d, .int .i64 f, .slice ax l.length cx] 26)
  have LV := Lib.hid (LV.out.below hb)
  have Oq := Lib.hid (Oq.out.below hb)
  have Ow := Lib.hid (Ow.out.below hb)
  have VW := Lib.hid (VW.out.below hb)
  have Ox := Lib.hid (Ox.out.below hb)
  have HB := Lib.hid (HB.out.trans (hb.mono HB.out.size))
  have hs_w7 : w6.heap.size < (w6.alloc (.cells #[.int .i64 d, .int .i64 f, .slice ax l.length cx] 26)).heap.size := hv0.lt
  have VX := Lib.hid hv0
  clear hv0 hb
  generalize (w6.alloc (.cells #[.int .i64 d, .int .i64 f, .slice ax l.length cx] 26)) = w7 at *
  refine (HIM.out _ _ _ _ Ox.out).mono ?_
  rintro e w8 ⟨ag, cg, rfl, hb, ho⟩
  have LV := Lib.hid (LV.out.below hb)
  have Oq := Lib.hid (Oq.out.below hb)
  have Ow := Lib.hid (Ow.out.below hb)
  have VW := Lib.hid (VW.out.below hb)
  have Ox := Lib.hid (Ox.out.below hb)
  have VX := Lib.hid (VX.out.below hb)
  have HB := Lib.hid (HB.out.trans (hb.mono HB.out.size))
  have hs_w8 : w7.heap.size ≤ w8.heap.size := hb.size
  clear hb
  have Og := Lib.hid ho
  have Ng := Lib.hid (ho.lt)
  clear ho
  obtain ⟨vw_0, vw_1, vw_2⟩ := (VW.out.below (alloc_below w8 (.cells #[.int .i64 d2, .int .i64 f2, .slice ag l2.length cg] 26))).cells
  go_wp2_with fail
  clear vw_0 vw_1 vw_2
  have hv0 := Var.new w8 d2 f2 (.slice ag l2.length cg)
  have hb := alloc_below w8 (.cells #[.int .i64 d2, .int .i64 f2, .slice ag l2.length cg] 26)
  have LV := Lib.hid (LV.out.below hb)
  have Oq := Lib.hid (Oq.out.below hb)
  have Ow := Lib.hid (Ow.out.below hb)
  have VW := Lib.hid (VW.out.below hb)
  have Ox := Lib.hid (Ox.out.below hb)
  have VX := Lib.hid (VX.out.below hb)
  have Og := Lib.hid (Og.out.below hb)
  have HB := Lib.hid (HB.out.trans (hb.mono HB.out.size))
  have hs_w9 : w8.heap.size < (w8.alloc (.cells #[.int .i64 d2, .int .i64 f2, .slice ag l2.length cg] 26)).heap.size := hv0.lt
  have VG := Lib.hid hv0
  clear hv0 hb
  generalize (w8.alloc (.cells #[.int .i64 d2, .int .i64 f2, .slice ag l2.length cg] 26)) = w9 at *
  refine (eq_card d2 f2 l2.length cg cw ag aw l2 rfl hm2 _ Og.out.row2.2 Ow.out.row2.2).mono ?_
  rintro e w10 ⟨rfl, hb⟩
  have LV := Lib.hid (LV.out.below hb)
  have Oq := Lib.hid (Oq.out.below hb)
  have Ow := Lib.hid (Ow.out.below hb)
  have VW := Lib.hid (VW.out.below hb)
  have Ox := Lib.hid (Ox.out.below hb)
  have VX := Lib.hid (VX.out.below hb)
  have Og := Lib.hid (Og.out.below hb)
  have VG := Lib.hid (VG.out.below hb)
  have HB := Lib.hid (HB.out.trans (hb.mono HB.out.size))
  have hs_w10 : w9.heap.size ≤ w10.heap.size := hb.size
  clear hb
  obtain ⟨lv_0, lv_1, lv_2⟩ := LV.out.cells
  obtain ⟨vx_0, vx_1, vx_2⟩ := VX.out.cells
  go_wp2_with fail
  have S0 : w10.cell? ⟨w6.heap.size, 0, none⟩ = some (.int .i64 d) ∧ w10.cell? ⟨w6.heap.size, 1, none⟩ = some (.int .i64 f) ∧ w10.cell? ⟨w6.heap.size, 2, none⟩ = some (.slice ax l.length cx) ∧ w10.cell? ⟨w.heap.size, 0, none⟩ = some (.int .i64 d) ∧ w10.cell? ⟨w.heap.size, 1, none⟩ = some (.int .i64 f) ∧ w10.cell? ⟨w.heap.size, 2, none⟩ = some (.slice a l.length c) ∧ Below w10.heap.size w10 w10 := ⟨vx_0, vx_1, vx_2, lv_0, lv_1, lv_2, Below.refl _ _⟩
  have HXR := Lib.hid (fun (w' : World) (hb : Below w10.heap.size w10 w') => (Ox.out.below hb).row2.2)
  have HTO := Lib.hid (fun (w' : World) (hb : Below w10.heap.size w10 w') => to_card d f a l.length c l w' rfl hn (HR.out.since (Nat.le_refl _) (HB.out.trans (hb.mono HB.out.size))))
  go_region_held3 (fun w' => w'.cell? ⟨w6.heap.size, 0, none⟩ = some (.int .i64 d) ∧ w'.cell? ⟨w6.heap.size, 1, none⟩ = some (.int .i64 f) ∧ w'.cell? ⟨w6.heap.size, 2, none⟩ = some (.slice ax l.length cx) ∧ w'.cell? ⟨w.heap.size, 0, none⟩ = some (.int .i64 d) ∧ w'.cell? ⟨w.heap.size, 1, none⟩ = some (.int .i64 f) ∧ w'.cell? ⟨w.heap.size, 2, none⟩ = some (.slice a l.length c) ∧ Below w10.heap.size w10 w')
    (first | exact S0 | exact eqs_drew S0 | exact eqs_next (by assumption) hb | exact eqs_next (by assumption) hb2 | exact eqs_drew (by assumption) | assumption)
    ((first | (go_at_call 29; refine (HTO.out _ (eqs_below (by assumption))).mono ?_; rintro e wy ⟨ay, cy, rfl, hb, hoy⟩; have OY := Lib.hid hoy; clear hoy) | (go_at_call 30; refine (eq_card d f l.length cx cy ax ay l rfl hn _ (HXR.out _ (eqs_below (by assumption))) (OY.out.row2.2)).mono ?_; rintro e wz ⟨rfl, hb2⟩)))
  have hbz : Below w10.heap.size w10 wz := eqs_below (w' := wz) (by assumption)
  clear S0 HXR HTO hb hb2 vx_0 vx_1 vx_2 lv_0 lv_1 lv_2
  have LV := Lib.hid (LV.out.below hbz)
  have Oq := Lib.hid (Oq.out.below hbz)
  have Ow := Lib.hid (Ow.out.below hbz)
  have VW := Lib.hid (VW.out.below hbz)
  have Ox := Lib.hid (Ox.out.below hbz)
  have VX := Lib.hid (VX.out.below hbz)
  have Og := Lib.hid (Og.out.below hbz)
  have VG := Lib.hid (VG.out.below hbz)
  have HB := Lib.hid (HB.out.trans (hbz.mono HB.out.size))
  have hs_wz : w10.heap.size ≤ wz.heap.size := hbz.size
  clear hbz
  obtain ⟨vx_0, vx_1, vx_2⟩ := VX.out.cells
  go_wp2_with fail
  clear vx_0 vx_1 vx_2
  refine (mark_card d f _ ax cx l hn _ Ox.out).mono ?_
  rintro e w11 ⟨rfl, hmk, hg⟩
  have LV := Lib.hid (LV.out.mark hg (fun k e => by have h1 := Nx.out k e; omega))
  have Oq := Lib.hid (Own.mark Oq.out hg (fun k k2 e e2 => by have h1 := Nx.out k2 e2; have h2 := Nq.out k e; omega))
  have Ow := Lib.hid (Own.mark Ow.out hg (fun k k2 e e2 => by have h1 := Nx.out k2 e2; have h2 := Nw.out k e; omega))
  have VW := Lib.hid (VW.out.mark hg (fun k e => by have h1 := Nx.out k e; omega))
  have VX := Lib.hid (VX.out.mark hg (fun k e => by have h1 := Nx.out k e; omega))
  have Og := Lib.hid (Own.mark Og.out hg (fun k k2 e e2 => by have h1 := Nx.out k2 e2; have h2 := Ng.out k e; omega))
  have VG := Lib.hid (VG.out.mark hg (fun k e => by have h1 := Nx.out k e; omega))
  have HB := Lib.hid (HB.out.grown hg HB.out.size (fun k e => by have h1 := Nx.out k e; omega))
  have hs_w11 : wz.heap.size ≤ w11.heap.size := hg.size
  have Ox := Lib.hid hmk
  clear hmk hg
  obtain ⟨vg_0, vg_1, vg_2⟩ := VG.out.cells
  obtain ⟨vw_0, vw_1, vw_2⟩ := VW.out.cells
  go_wp2_with fail
  clear vg_0 vg_1 vg_2 vw_0 vw_1 vw_2
  refine (eq_card d2 f2 l2.length cg cw ag aw l2 rfl hm2 _ Og.out.row2.2 Ow.out.row2.2).mono ?_
  rintro e w12 ⟨rfl, hb⟩
  have LV := Lib.hid (LV.out.below hb)
  have Oq := Lib.hid (Oq.out.below hb)
  have Ow := Lib.hid (Ow.out.below hb)
  have VW := Lib.hid (VW.out.below hb)
  have Ox := Lib.hid (Ox.out.below hb)
  have VX := Lib.hid (VX.out.below hb)
  have Og := Lib.hid (Og.out.below hb)
  have VG := Lib.hid (VG.out.below hb)
  have HB := Lib.hid (HB.out.trans (hb.mono HB.out.size))
  have hs_w12 : w11.heap.size ≤ w12.heap.size := hb.size
  clear hb
  obtain ⟨vg_0, vg_1, vg_2⟩ := VG.out.cells
  go_wp2_with fail
  clear vg_0 vg_1 vg_2
  refine (mark_card d2 f2 _ ag cg l2 hm2 _ Og.out).mono ?_
  rintro e w13 ⟨rfl, hmk, hg⟩
  have LV := Lib.hid (LV.out.mark hg (fun k e => by have h1 := Ng.out k e; omega))
  have Oq := Lib.hid (Own.mark Oq.out hg (fun k k2 e e2 => by have h1 := Ng.out k2 e2; have h2 := Nq.out k e; omega))
  have Ow := Lib.hid (Own.mark Ow.out hg (fun k k2 e e2 => by have h1 := Ng.out k2 e2; have h2 := Nw.out k e; omega))
  have VW := Lib.hid (VW.out.mark hg (fun k e => by have h1 := Ng.out k e; omega))
  have Ox := Lib.hid (Own.mark Ox.out hg (fun k k2 e e2 => by have h1 := Ng.out k2 e2; have h2 := Nx.out k e; omega))
  have VX := Lib.hid (VX.out.mark hg (fun k e => by have h1 := Ng.out k e; omega))
  have VG := Lib.hid (VG.out.mark hg (fun k e => by have h1 := Ng.out k e; omega))
  have HB := Lib.hid (HB.out.grown hg HB.out.size (fun k e => by have h1 := Ng.out k e; omega))
  have hs_w13 : w12.heap.size ≤ w13.heap.size := hg.size
  have Og := Lib.hid hmk
  clear hmk hg
  obtain ⟨vg_0, vg_1, vg_2⟩ := VG.out.cells
  go_wp2_with fail
  clear vg_0 vg_1 vg_2
  refine (held_card d2 f2 _ ag l2.length cg hm2 _ Og.out).mono ?_
  rintro e w14 ⟨rfl, hb⟩
  have LV := Lib.hid (LV.out.below hb)
  have Oq := Lib.hid (Oq.out.below hb)
  have Ow := Lib.hid (Ow.out.below hb)
  have VW := Lib.hid (VW.out.below hb)
  have Ox := Lib.hid (Ox.out.below hb)
  have VX := Lib.hid (VX.out.below hb)
  have Og := Lib.hid (Og.out.below hb)
  have VG := Lib.hid (VG.out.below hb)
  have HB := Lib.hid (HB.out.trans (hb.mono HB.out.size))
  have hs_w14 : w13.heap.size ≤ w14.heap.size := hb.size
  clear hb
  obtain ⟨lv_0, lv_1, lv_2⟩ := LV.out.cells
  go_wp2_with fail
  clear lv_0 lv_1 lv_2
  refine (to_card d f a l.length c l _ rfl hn (HR.out.since (Nat.le_refl _) HB.out)).mono ?_
  rintro e w15 ⟨au, cu, rfl, hb, ho⟩
  have LV := Lib.hid (LV.out.below hb)
  have Oq := Lib.hid (Oq.out.below hb)
  have Ow := Lib.hid (Ow.out.below hb)
  have VW := Lib.hid (VW.out.below hb)
  have Ox := Lib.hid (Ox.out.below hb)
  have VX := Lib.hid (VX.out.below hb)
  have Og := Lib.hid (Og.out.below hb)
  have VG := Lib.hid (VG.out.below hb)
  have HB := Lib.hid (HB.out.trans (hb.mono HB.out.size))
  have hs_w15 : w14.heap.size ≤ w15.heap.size := hb.size
  clear hb
  have Ou := Lib.hid ho
  have Nu := Lib.hid (ho.lt)
  clear ho
  go_wp2_with fail
  refine (HIM.out _ _ _ _ Ou.out).mono ?_
  rintro e w16 ⟨ah, ch, rfl, hb, ho⟩
  have LV := Lib.hid (LV.out.below hb)
  have Oq := Lib.hid (Oq.out.below hb)
  have Ow := Lib.hid (Ow.out.below hb)
  have VW := Lib.hid (VW.out.below hb)
  have Ox := Lib.hid (Ox.out.below hb)
  have VX := Lib.hid (VX.out.below hb)
  have Og := Lib.hid (Og.out.below hb)
  have VG := Lib.hid (VG.out.below hb)
  have Ou := Lib.hid (Ou.out.below hb)
  have HB := Lib.hid (HB.out.trans (hb.mono HB.out.size))
  have hs_w16 : w15.heap.size ≤ w16.heap.size := hb.size
  clear hb
  have Oh := Lib.hid ho
  have Nh := Lib.hid (ho.lt)
  clear ho
  obtain ⟨vw_0, vw_1, vw_2⟩ := (VW.out.below (alloc_below w16 (.cells #[.int .i64 d2, .int .i64 f2, .slice ah l2.length ch] 26))).cells
  go_wp2_with fail
  clear vw_0 vw_1 vw_2
  have hv0 := Var.new w16 d2 f2 (.slice ah l2.length ch)
  have hb := alloc_below w16 (.cells #[.int .i64 d2, .int .i64 f2, .slice ah l2.length ch] 26)
  have LV := Lib.hid (LV.out.below hb)
  have Oq := Lib.hid (Oq.out.below hb)
  have Ow := Lib.hid (Ow.out.below hb)
  have VW := Lib.hid (VW.out.below hb)
  have Ox := Lib.hid (Ox.out.below hb)
  have VX := Lib.hid (VX.out.below hb)
  have Og := Lib.hid (Og.out.below hb)
  have VG := Lib.hid (VG.out.below hb)
  have Ou := Lib.hid (Ou.out.below hb)
  have Oh := Lib.hid (Oh.out.below hb)
  have HB := Lib.hid (HB.out.trans (hb.mono HB.out.size))
  have hs_w17 : w16.heap.size < (w16.alloc (.cells #[.int .i64 d2, .int .i64 f2, .slice ah l2.length ch] 26)).heap.size := hv0.lt
  have VH := Lib.hid hv0
  clear hv0 hb
  generalize (w16.alloc (.cells #[.int .i64 d2, .int .i64 f2, .slice ah l2.length ch] 26)) = w17 at *
  refine (eq_card d2 f2 l2.length ch cw ah aw l2 rfl hm2 _ Oh.out.row2.2 Ow.out.row2.2).mono ?_
  rintro e w18 ⟨rfl, hb⟩
  have LV := Lib.hid (LV.out.below hb)
  have Oq := Lib.hid (Oq.out.below hb)
  have Ow := Lib.hid (Ow.out.below hb)
  have VW := Lib.hid (VW.out.below hb)
  have Ox := Lib.hid (Ox.out.below hb)
  have VX := Lib.hid (VX.out.below hb)
  have Og := Lib.hid (Og.out.below hb)
  have VG := Lib.hid (VG.out.below hb)
  have Ou := Lib.hid (Ou.out.below hb)
  have Oh := Lib.hid (Oh.out.below hb)
  have VH := Lib.hid (VH.out.below hb)
  have HB := Lib.hid (HB.out.trans (hb.mono HB.out.size))
  have hs_w18 : w17.heap.size ≤ w18.heap.size := hb.size
  clear hb
  obtain ⟨vg_0, vg_1, vg_2⟩ := VG.out.cells
  go_wp2_with fail
  clear vg_0 vg_1 vg_2
  refine (held_card d2 f2 _ ag l2.length cg hm2 _ Og.out).mono ?_
  rintro e w19 ⟨rfl, hb⟩
  have LV := Lib.hid (LV.out.below hb)
  have Oq := Lib.hid (Oq.out.below hb)
  have Ow := Lib.hid (Ow.out.below hb)
  have VW := Lib.hid (VW.out.below hb)
  have Ox := Lib.hid (Ox.out.below hb)
  have VX := Lib.hid (VX.out.below hb)
  have Og := Lib.hid (Og.out.below hb)
  have VG := Lib.hid (VG.out.below hb)
  have Ou := Lib.hid (Ou.out.below hb)
  have Oh := Lib.hid (Oh.out.below hb)
  have VH := Lib.hid (VH.out.below hb)
  have HB := Lib.hid (HB.out.trans (hb.mono HB.out.size))
  have hs_w19 : w18.heap.size ≤ w19.heap.size := hb.size
  clear hb
  go_wp2
  go_ret
  exact ⟨rfl, HB.out⟩
end Go.Proofs.Ytoampghmikamlaa.Card
