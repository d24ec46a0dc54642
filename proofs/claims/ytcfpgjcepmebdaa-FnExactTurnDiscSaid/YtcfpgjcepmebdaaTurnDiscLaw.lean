/- The walk of the law FnExactTurnDisc (printed by wip/gen_disclaw.py). -/
import Derived.Test.YtcfpgjcepmebdaaDiscLaw
import Derived.Test.YtcfpgjcepmebdaaDiscTurn
namespace Go.Proofs.Ytcfpgjcepmebdaa.Disc
open Go.ChangeShapes Go.WideShapes Go.ChangeAt Go.RowKit
open Go.Proofs.Ytcfpgjcepmebdaa.Ints
set_option linter.unusedVariables false

set_option maxRecDepth 100000 in
set_option maxHeartbeats 4000000 in
theorem exactTurnDisc (n m : Int) (a : Option Addr) (c : Nat) (l : List Int) (b : Int) (w : World) (hm : l.length ≤ maxLen) (hr : ARow w a l) :
    Calls Try.prog 5 #[.agg #[.int .i64 n, .int .i64 m, .slice a l.length c], .int .i64 b] w fun e w' => e = .returned (.bool true) ∧ Below w.heap.size w w' := by
  have HM := Lib.hid hm
  have HR := Lib.hid hr
  clear hm hr
  obtain ⟨N, hN⟩ : ∃ N, l.length = N := ⟨_, rfl⟩
  have HN := Lib.hid hN
  rw [hN] at HM ⊢
  clear hN
  have HB := Lib.hid (Below.refl w.heap.size w)
  have HSZ := Lib.hid (fun w' => sz_disc n m 1048576 (by decide) (by decide) a N c HM.out w')
  by_cases hbig : (1048576 : Int) - (N : Int) < 0
  · have hd : decide ((-1 : Int) < 0) = true := rfl
    rw [if_pos hbig] at HSZ
    go_enter Try.func5, Try.ntmps5
    go_wp2_with fail
    have hv0 := LDisc.new w n m (.slice a N c)
    have hb := alloc_below w (.cells #[.int .i64 n, .int .i64 m, .slice a N c] 36)
    have HB := Lib.hid (HB.out.trans (hb.mono HB.out.size))
    have hs_w1 : w.heap.size < (w.alloc (.cells #[.int .i64 n, .int .i64 m, .slice a N c] 36)).heap.size := hv0.lt
    have LV := Lib.hid hv0
    clear hv0 hb
    generalize (w.alloc (.cells #[.int .i64 n, .int .i64 m, .slice a N c] 36)) = w1 at *
    refine (HSZ.out _).mono ?_
    rintro e w2 ⟨rfl, hb⟩
    have LV := Lib.hid (LV.out.below hb)
    have HB := Lib.hid (HB.out.trans (hb.mono HB.out.size))
    have hs_w2 : w1.heap.size ≤ w2.heap.size := hb.size
    clear hb
    go_wp2
    go_ret
    exact ⟨rfl, HB.out⟩
  · rw [if_neg hbig] at HSZ
    have hn1 : N ≤ 1048576 := by omega
    have hd : decide ((1048576 : Int) - (N : Int) < 0) = false := decide_eq_false hbig
    have hq0 : (0 : Int) ≤ (N : Int) := Int.natCast_nonneg _
    have hq1 : (N : Int) ≤ 1048576 := by omega
    have hqq : ((1 + (N : Int)) != (1 + (N : Int))) = false := by simp
    have hd1 : decide (1 + (N : Int) < 0) = false := decide_eq_false (by omega)
    have HTO := Lib.hid (fun w' h => to_disc n m a N c l w' HN.out hn1 h)
    have HEQ := Lib.hid (fun a1 c1 a2 c2 w' h1 h2 => eq_disc n m N c1 c2 a1 a2 l HN.out hn1 w' h1 h2)
    have HSP := Lib.hid (fun g' c' w' h => turn_spec n m b g' N c' l w' HN.out hn1 h)
    have HIM := Lib.hid (fun g' c' w' h => turn_impl n m b g' N c' l w' HN.out hn1 h)
    obtain ⟨v, hv⟩ : ∃ v, turnV n m l b = v := ⟨_, rfl⟩
    rw [hv] at HSP HIM
    clear hv hbig
    have HEV := Lib.hid (fun a1 c1 a2 c2 w' h1 h2 => eq_disc n v N c1 c2 a1 a2 l HN.out hn1 w' h1 h2)
    have HMX := Lib.hid (fun base g' c' w' h => mark_disc n m base (some ⟨g', 0, none⟩) N c' l HN.out hn1 w' h)
    have HMG := Lib.hid (fun base g' c' w' h => mark_disc n v base (some ⟨g', 0, none⟩) N c' l HN.out hn1 w' h)
    have HHD := Lib.hid (fun g' c' w' h => held_disc n v (some ⟨g', 0, none⟩) N c' hn1 w' h)
    go_enter Try.func5, Try.ntmps5
    go_wp2_with fail
    have hv0 := LDisc.new w n m (.slice a N c)
    have hb := alloc_below w (.cells #[.int .i64 n, .int .i64 m, .slice a N c] 36)
    have HB := Lib.hid (HB.out.trans (hb.mono HB.out.size))
    have hs_w1 : w.heap.size < (w.alloc (.cells #[.int .i64 n, .int .i64 m, .slice a N c] 36)).heap.size := hv0.lt
    have LV := Lib.hid hv0
    clear hv0 hb
    generalize (w.alloc (.cells #[.int .i64 n, .int .i64 m, .slice a N c] 36)) = w1 at *
    refine (HSZ.out _).mono ?_
    rintro e w2 ⟨rfl, hb⟩
    have LV := Lib.hid (LV.out.below hb)
    have HB := Lib.hid (HB.out.trans (hb.mono HB.out.size))
    have hs_w2 : w1.heap.size ≤ w2.heap.size := hb.size
    clear hb
    obtain ⟨lv_0, lv_1, lv_2⟩ := LV.out.cells
    go_wp2_with fail
    clear lv_0 lv_1 lv_2
    refine (HTO.out _ (HR.out.below HB.out)).mono ?_
    rintro e w3 ⟨gq, cq, rfl, hb, ho⟩
    have LV := Lib.hid (LV.out.below hb)
    have HB := Lib.hid (HB.out.trans (hb.mono HB.out.size))
    have hs_w3 : w2.heap.size ≤ w3.heap.size := hb.size
    clear hb
    have Oq := Lib.hid ho
    have Nq := Lib.hid (ho.lt gq rfl)
    clear ho
    go_wp2_with fail
    refine (HSP.out _ _ _ (Own.row2 Oq.out)).mono ?_
    rintro e w4 ⟨gw, cw, rfl, hb, ho⟩
    have LV := Lib.hid (LV.out.below hb)
    have Oq := Lib.hid (Oq.out.below hb)
    have HB := Lib.hid (HB.out.trans (hb.mono HB.out.size))
    have hs_w4 : w3.heap.size ≤ w4.heap.size := hb.size
    clear hb
    have Ow := Lib.hid ho
    have Nw := Lib.hid (ho.lt gw rfl)
    clear ho
    obtain ⟨lv_0, lv_1, lv_2⟩ := (LV.out.below (alloc_below w4 (.cells #[.int .i64 n, .int .i64 v, .slice (some ⟨gw, 0, none⟩) N cw] 26))).cells
    go_wp2_with fail
    clear lv_0 lv_1 lv_2
    have hv0 := DVar.new w4 n v (.slice (some ⟨gw, 0, none⟩) N cw)
    have hb := alloc_below w4 (.cells #[.int .i64 n, .int .i64 v, .slice (some ⟨gw, 0, none⟩) N cw] 26)
    have LV := Lib.hid (LV.out.below hb)
    have Oq := Lib.hid (Oq.out.below hb)
    have Ow := Lib.hid (Ow.out.below hb)
    have HB := Lib.hid (HB.out.trans (hb.mono HB.out.size))
    have hs_w5 : w4.heap.size < (w4.alloc (.cells #[.int .i64 n, .int .i64 v, .slice (some ⟨gw, 0, none⟩) N cw] 26)).heap.size := hv0.lt
    have VW := Lib.hid hv0
    clear hv0 hb
    generalize (w4.alloc (.cells #[.int .i64 n, .int .i64 v, .slice (some ⟨gw, 0, none⟩) N cw] 26)) = w5 at *
    refine (HTO.out _ (HR.out.below HB.out)).mono ?_
    rintro e w6 ⟨gx, cx, rfl, hb, ho⟩
    have LV := Lib.hid (LV.out.below hb)
    have Oq := Lib.hid (Oq.out.below hb)
    have Ow := Lib.hid (Ow.out.below hb)
    have VW := Lib.hid (VW.out.below hb)
    have HB := Lib.hid (HB.out.trans (hb.mono HB.out.size))
    have hs_w6 : w5.heap.size ≤ w6.heap.size := hb.size
    clear hb
    have Ox := Lib.hid ho
    have Nx := Lib.hid (ho.lt gx rfl)
    clear ho
    go_wp2_with fail
    have hv0 := DVar.new w6 n m (.slice (some ⟨gx, 0, none⟩) N cx)
    have hb := alloc_below w6 (.cells #[.int .i64 n, .int .i64 m, .slice (some ⟨gx, 0, none⟩) N cx] 26)
    have LV := Lib.hid (LV.out.below hb)
    have Oq := Lib.hid (Oq.out.below hb)
    have Ow := Lib.hid (Ow.out.below hb)
    have VW := Lib.hid (VW.out.below hb)
    have Ox := Lib.hid (Ox.out.below hb)
    have HB := Lib.hid (HB.out.trans (hb.mono HB.out.size))
    have hs_w7 : w6.heap.size < (w6.alloc (.cells #[.int .i64 n, .int .i64 m, .slice (some ⟨gx, 0, none⟩) N cx] 26)).heap.size := hv0.lt
    have VX := Lib.hid hv0
    clear hv0 hb
    generalize (w6.alloc (.cells #[.int .i64 n, .int .i64 m, .slice (some ⟨gx, 0, none⟩) N cx] 26)) = w7 at *
    refine (HIM.out _ _ _ (Own.row2 Ox.out)).mono ?_
    rintro e w8 ⟨gg, cg, rfl, hb, ho⟩
    have LV := Lib.hid (LV.out.below hb)
    have Oq := Lib.hid (Oq.out.below hb)
    have Ow := Lib.hid (Ow.out.below hb)
    have VW := Lib.hid (VW.out.below hb)
    have Ox := Lib.hid (Ox.out.below hb)
    have VX := Lib.hid (VX.out.below hb)
    have HB := Lib.hid (HB.out.trans (hb.mono HB.out.size))
    have hs_w8 : w7.heap.size ≤ w8.heap.size := hb.size
    clear hb
    have Og := Lib.hid ho
    have Ng := Lib.hid (ho.lt gg rfl)
    clear ho
    obtain ⟨vw_0, vw_1, vw_2⟩ := (VW.out.below (alloc_below w8 (.cells #[.int .i64 n, .int .i64 v, .slice (some ⟨gg, 0, none⟩) N cg] 26))).cells
    go_wp2_with fail
    clear vw_0 vw_1 vw_2
    have hv0 := DVar.new w8 n v (.slice (some ⟨gg, 0, none⟩) N cg)
    have hb := alloc_below w8 (.cells #[.int .i64 n, .int .i64 v, .slice (some ⟨gg, 0, none⟩) N cg] 26)
    have LV := Lib.hid (LV.out.below hb)
    have Oq := Lib.hid (Oq.out.below hb)
    have Ow := Lib.hid (Ow.out.below hb)
    have VW := Lib.hid (VW.out.below hb)
    have Ox := Lib.hid (Ox.out.below hb)
    have VX := Lib.hid (VX.out.below hb)
    have Og := Lib.hid (Og.out.below hb)
    have HB := Lib.hid (HB.out.trans (hb.mono HB.out.size))
    have hs_w9 : w8.heap.size < (w8.alloc (.cells #[.int .i64 n, .int .i64 v, .slice (some ⟨gg, 0, none⟩) N cg] 26)).heap.size := hv0.lt
    have VG := Lib.hid hv0
    clear hv0 hb
    generalize (w8.alloc (.cells #[.int .i64 n, .int .i64 v, .slice (some ⟨gg, 0, none⟩) N cg] 26)) = w9 at *
    refine (HEV.out _ _ _ _ _ (Own.row2 Og.out) (Own.row2 Ow.out)).mono ?_
    rintro e w10 ⟨rfl, hb⟩
    have LV := Lib.hid (LV.out.below hb)
    have Oq := Lib.hid (Oq.out.below hb)
    have Ow := Lib.hid (Ow.out.below hb)
    have VW := Lib.hid (VW.out.below hb)
    have Ox := Lib.hid (Ox.out.below hb)
    have VX := Lib.hid (VX.out.below hb)
    have Og := Lib.hid (Og.out.below hb)
    have VG := Lib.hid (VG.out.below hb)
    have HB := Lib.hid (HB.out.trans (hb.mono HB.out.size))
    have hs_w10 : w9.heap.size ≤ w10.heap.size := hb.size
    clear hb
    obtain ⟨lv_0, lv_1, lv_2⟩ := LV.out.cells
    obtain ⟨vx_0, vx_1, vx_2⟩ := VX.out.cells
    go_wp2_with fail
    have S0 : w10.cell? ⟨w6.heap.size, 0, none⟩ = some (.int .i64 n) ∧ w10.cell? ⟨w6.heap.size, 1, none⟩ = some (.int .i64 m) ∧ w10.cell? ⟨w6.heap.size, 2, none⟩ = some (.slice (some ⟨gx, 0, none⟩) N cx) ∧ w10.cell? ⟨w.heap.size, 0, none⟩ = some (.int .i64 n) ∧ w10.cell? ⟨w.heap.size, 1, none⟩ = some (.int .i64 m) ∧ w10.cell? ⟨w.heap.size, 2, none⟩ = some (.slice a N c) ∧ Below w10.heap.size w10 w10 := ⟨vx_0, vx_1, vx_2, lv_0, lv_1, lv_2, Below.refl _ _⟩
    have HXR := Lib.hid (fun (w' : World) (hb : Below w10.heap.size w10 w') => Own.row2 (Ox.out.below hb))
    have HTOW := Lib.hid (fun (w' : World) (hb : Below w10.heap.size w10 w') => HTO.out w' (HR.out.below (HB.out.trans (hb.mono HB.out.size))))
    go_region_held3 (fun w' => w'.cell? ⟨w6.heap.size, 0, none⟩ = some (.int .i64 n) ∧ w'.cell? ⟨w6.heap.size, 1, none⟩ = some (.int .i64 m) ∧ w'.cell? ⟨w6.heap.size, 2, none⟩ = some (.slice (some ⟨gx, 0, none⟩) N cx) ∧ w'.cell? ⟨w.heap.size, 0, none⟩ = some (.int .i64 n) ∧ w'.cell? ⟨w.heap.size, 1, none⟩ = some (.int .i64 m) ∧ w'.cell? ⟨w.heap.size, 2, none⟩ = some (.slice a N c) ∧ Below w10.heap.size w10 w')
      (first | exact S0 | exact eqs_drew S0 | exact eqs_next (by assumption) hb | exact eqs_next (by assumption) hb2 | exact eqs_drew (by assumption) | assumption)
      ((first | (go_at_call 21; refine (HTOW.out _ (eqs_below (by assumption))).mono ?_; rintro e wy ⟨gr_, cr_, rfl, hb, hoy⟩; have OY := Lib.hid hoy; clear hoy) | (go_at_call 22; refine (HEQ.out _ _ _ _ _ (HXR.out _ (eqs_below (by assumption))) (Own.row2 OY.out)).mono ?_; rintro e wzx ⟨rfl, hb2⟩)))
    have hbz : Below w10.heap.size w10 wzx := eqs_below (w' := wzx) (by assumption)
    clear S0 HXR HTOW hb hb2 OY
    clear vx_0 vx_1 vx_2 lv_0 lv_1 lv_2
    have LV := Lib.hid (LV.out.below hbz)
    have Oq := Lib.hid (Oq.out.below hbz)
    have Ow := Lib.hid (Ow.out.below hbz)
    have VW := Lib.hid (VW.out.below hbz)
    have Ox := Lib.hid (Ox.out.below hbz)
    have VX := Lib.hid (VX.out.below hbz)
    have Og := Lib.hid (Og.out.below hbz)
    have VG := Lib.hid (VG.out.below hbz)
    have HB := Lib.hid (HB.out.trans (hbz.mono HB.out.size))
    have hs_wzx : w10.heap.size ≤ wzx.heap.size := hbz.size
    clear hbz
    obtain ⟨vx_0, vx_1, vx_2⟩ := VX.out.cells
    go_wp2_with fail
    clear vx_0 vx_1 vx_2
    refine (HMX.out _ _ _ _ Ox.out).mono ?_
    rintro e w11 ⟨rfl, hmk, hg⟩
    have LV := Lib.hid (lvar_mark LV.out hg (fun k e => by have e1 : gx = k := (by simpa [Value.ownBlock] using e); have h1 := Nx.out; omega))
    have Oq := Lib.hid (own_mark Oq.out hg (fun k k2 e e2 => by have e1 : gq = k := (by simpa [Value.ownBlock] using e); have e3 : gx = k2 := (by simpa [Value.ownBlock] using e2); have h1 := Nx.out; have h2 := Nq.out; omega))
    have Ow := Lib.hid (own_mark Ow.out hg (fun k k2 e e2 => by have e1 : gw = k := (by simpa [Value.ownBlock] using e); have e3 : gx = k2 := (by simpa [Value.ownBlock] using e2); have h1 := Nx.out; have h2 := Nw.out; omega))
    have VW := Lib.hid (var_mark VW.out hg (fun k e => by have e1 : gx = k := (by simpa [Value.ownBlock] using e); have h1 := Nx.out; omega))
    have VX := Lib.hid (var_mark VX.out hg (fun k e => by have e1 : gx = k := (by simpa [Value.ownBlock] using e); have h1 := Nx.out; omega))
    have Og := Lib.hid (own_mark Og.out hg (fun k k2 e e2 => by have e1 : gg = k := (by simpa [Value.ownBlock] using e); have e3 : gx = k2 := (by simpa [Value.ownBlock] using e2); have h1 := Nx.out; have h2 := Ng.out; omega))
    have VG := Lib.hid (var_mark VG.out hg (fun k e => by have e1 : gx = k := (by simpa [Value.ownBlock] using e); have h1 := Nx.out; omega))
    have HB := Lib.hid (HB.out.grown hg HB.out.size (fun k e => by have e1 : gx = k := (by simpa [Value.ownBlock] using e); have h1 := Nx.out; omega))
    have hs_w11 : wzx.heap.size ≤ w11.heap.size := hg.size
    have Ox := Lib.hid hmk
    clear hmk hg
    obtain ⟨vg_0, vg_1, vg_2⟩ := VG.out.cells
    obtain ⟨vw_0, vw_1, vw_2⟩ := VW.out.cells
    go_wp2_with fail
    clear vg_0 vg_1 vg_2 vw_0 vw_1 vw_2
    refine (HEV.out _ _ _ _ _ (Own.row2 Og.out) (Own.row2 Ow.out)).mono ?_
    rintro e w12 ⟨rfl, hb⟩
    have LV := Lib.hid (LV.out.below hb)
    have Oq := Lib.hid (Oq.out.below hb)
    have Ow := Lib.hid (Ow.out.below hb)
    have VW := Lib.hid (VW.out.below hb)
    have Ox := Lib.hid (Ox.out.below hb)
    have VX := Lib.hid (VX.out.below hb)
    have Og := Lib.hid (Og.out.below hb)
    have VG := Lib.hid (VG.out.below hb)
    have HB := Lib.hid (HB.out.trans (hb.mono HB.out.size))
    have hs_w12 : w11.heap.size ≤ w12.heap.size := hb.size
    clear hb
    obtain ⟨vg_0, vg_1, vg_2⟩ := VG.out.cells
    go_wp2_with fail
    clear vg_0 vg_1 vg_2
    refine (HMG.out _ _ _ _ Og.out).mono ?_
    rintro e w13 ⟨rfl, hmk, hg⟩
    have LV := Lib.hid (lvar_mark LV.out hg (fun k e => by have e1 : gg = k := (by simpa [Value.ownBlock] using e); have h1 := Ng.out; omega))
    have Oq := Lib.hid (own_mark Oq.out hg (fun k k2 e e2 => by have e1 : gq = k := (by simpa [Value.ownBlock] using e); have e3 : gg = k2 := (by simpa [Value.ownBlock] using e2); have h1 := Ng.out; have h2 := Nq.out; omega))
    have Ow := Lib.hid (own_mark Ow.out hg (fun k k2 e e2 => by have e1 : gw = k := (by simpa [Value.ownBlock] using e); have e3 : gg = k2 := (by simpa [Value.ownBlock] using e2); have h1 := Ng.out; have h2 := Nw.out; omega))
    have VW := Lib.hid (var_mark VW.out hg (fun k e => by have e1 : gg = k := (by simpa [Value.ownBlock] using e); have h1 := Ng.out; omega))
    have Ox := Lib.hid (own_mark Ox.out hg (fun k k2 e e2 => by have e1 : gx = k := (by simpa [Value.ownBlock] using e); have e3 : gg = k2 := (by simpa [Value.ownBlock] using e2); have h1 := Ng.out; have h2 := Nx.out; omega))
    have VX := Lib.hid (var_mark VX.out hg (fun k e => by have e1 : gg = k := (by simpa [Value.ownBlock] using e); have h1 := Ng.out; omega))
    have VG := Lib.hid (var_mark VG.out hg (fun k e => by have e1 : gg = k := (by simpa [Value.ownBlock] using e); have h1 := Ng.out; omega))
    have HB := Lib.hid (HB.out.grown hg HB.out.size (fun k e => by have e1 : gg = k := (by simpa [Value.ownBlock] using e); have h1 := Ng.out; omega))
    have hs_w13 : w12.heap.size ≤ w13.heap.size := hg.size
    have Og := Lib.hid hmk
    clear hmk hg
    obtain ⟨vg_0, vg_1, vg_2⟩ := VG.out.cells
    go_wp2_with fail
    clear vg_0 vg_1 vg_2
    refine (HHD.out _ _ _ (Own.row2 Og.out)).mono ?_
    rintro e w14 ⟨rfl, hb⟩
    have LV := Lib.hid (LV.out.below hb)
    have Oq := Lib.hid (Oq.out.below hb)
    have Ow := Lib.hid (Ow.out.below hb)
    have VW := Lib.hid (VW.out.below hb)
    have Ox := Lib.hid (Ox.out.below hb)
    have VX := Lib.hid (VX.out.below hb)
    have Og := Lib.hid (Og.out.below hb)
    have VG := Lib.hid (VG.out.below hb)
    have HB := Lib.hid (HB.out.trans (hb.mono HB.out.size))
    have hs_w14 : w13.heap.size ≤ w14.heap.size := hb.size
    clear hb
    obtain ⟨lv_0, lv_1, lv_2⟩ := LV.out.cells
    go_wp2_with fail
    clear lv_0 lv_1 lv_2
    refine (HTO.out _ (HR.out.below HB.out)).mono ?_
    rintro e w15 ⟨gu, cu, rfl, hb, ho⟩
    have LV := Lib.hid (LV.out.below hb)
    have Oq := Lib.hid (Oq.out.below hb)
    have Ow := Lib.hid (Ow.out.below hb)
    have VW := Lib.hid (VW.out.below hb)
    have Ox := Lib.hid (Ox.out.below hb)
    have VX := Lib.hid (VX.out.below hb)
    have Og := Lib.hid (Og.out.below hb)
    have VG := Lib.hid (VG.out.below hb)
    have HB := Lib.hid (HB.out.trans (hb.mono HB.out.size))
    have hs_w15 : w14.heap.size ≤ w15.heap.size := hb.size
    clear hb
    have Ou := Lib.hid ho
    have Nu := Lib.hid (ho.lt gu rfl)
    clear ho
    go_wp2_with fail
    refine (HIM.out _ _ _ (Own.row2 Ou.out)).mono ?_
    rintro e w16 ⟨gh, ch, rfl, hb, ho⟩
    have LV := Lib.hid (LV.out.below hb)
    have Oq := Lib.hid (Oq.out.below hb)
    have Ow := Lib.hid (Ow.out.below hb)
    have VW := Lib.hid (VW.out.below hb)
    have Ox := Lib.hid (Ox.out.below hb)
    have VX := Lib.hid (VX.out.below hb)
    have Og := Lib.hid (Og.out.below hb)
    have VG := Lib.hid (VG.out.below hb)
    have Ou := Lib.hid (Ou.out.below hb)
    have HB := Lib.hid (HB.out.trans (hb.mono HB.out.size))
    have hs_w16 : w15.heap.size ≤ w16.heap.size := hb.size
    clear hb
    have Oh := Lib.hid ho
    have Nh := Lib.hid (ho.lt gh rfl)
    clear ho
    obtain ⟨vw_0, vw_1, vw_2⟩ := (VW.out.below (alloc_below w16 (.cells #[.int .i64 n, .int .i64 v, .slice (some ⟨gh, 0, none⟩) N ch] 26))).cells
    go_wp2_with fail
    clear vw_0 vw_1 vw_2
    have hv0 := DVar.new w16 n v (.slice (some ⟨gh, 0, none⟩) N ch)
    have hb := alloc_below w16 (.cells #[.int .i64 n, .int .i64 v, .slice (some ⟨gh, 0, none⟩) N ch] 26)
    have LV := Lib.hid (LV.out.below hb)
    have Oq := Lib.hid (Oq.out.below hb)
    have Ow := Lib.hid (Ow.out.below hb)
    have VW := Lib.hid (VW.out.below hb)
    have Ox := Lib.hid (Ox.out.below hb)
    have VX := Lib.hid (VX.out.below hb)
    have Og := Lib.hid (Og.out.below hb)
    have VG := Lib.hid (VG.out.below hb)
    have Ou := Lib.hid (Ou.out.below hb)
    have Oh := Lib.hid (Oh.out.below hb)
    have HB := Lib.hid (HB.out.trans (hb.mono HB.out.size))
    have hs_w17 : w16.heap.size < (w16.alloc (.cells #[.int .i64 n, .int .i64 v, .slice (some ⟨gh, 0, none⟩) N ch] 26)).heap.size := hv0.lt
    have VH := Lib.hid hv0
    clear hv0 hb
    generalize (w16.alloc (.cells #[.int .i64 n, .int .i64 v, .slice (some ⟨gh, 0, none⟩) N ch] 26)) = w17 at *
    refine (HEV.out _ _ _ _ _ (Own.row2 Oh.out) (Own.row2 Ow.out)).mono ?_
    rintro e w18 ⟨rfl, hb⟩
    have LV := Lib.hid (LV.out.below hb)
    have Oq := Lib.hid (Oq.out.below hb)
    have Ow := Lib.hid (Ow.out.below hb)
    have VW := Lib.hid (VW.out.below hb)
    have Ox := Lib.hid (Ox.out.below hb)
    have VX := Lib.hid (VX.out.below hb)
    have Og := Lib.hid (Og.out.below hb)
    have VG := Lib.hid (VG.out.below hb)
    have Ou := Lib.hid (Ou.out.below hb)
    have Oh := Lib.hid (Oh.out.below hb)
    have VH := Lib.hid (VH.out.below hb)
    have HB := Lib.hid (HB.out.trans (hb.mono HB.out.size))
    have hs_w18 : w17.heap.size ≤ w18.heap.size := hb.size
    clear hb
    obtain ⟨vg_0, vg_1, vg_2⟩ := VG.out.cells
    go_wp2_with fail
    clear vg_0 vg_1 vg_2
    refine (HHD.out _ _ _ (Own.row2 Og.out)).mono ?_
    rintro e w19 ⟨rfl, hb⟩
    have LV := Lib.hid (LV.out.below hb)
    have Oq := Lib.hid (Oq.out.below hb)
    have Ow := Lib.hid (Ow.out.below hb)
    have VW := Lib.hid (VW.out.below hb)
    have Ox := Lib.hid (Ox.out.below hb)
    have VX := Lib.hid (VX.out.below hb)
    have Og := Lib.hid (Og.out.below hb)
    have VG := Lib.hid (VG.out.below hb)
    have Ou := Lib.hid (Ou.out.below hb)
    have Oh := Lib.hid (Oh.out.below hb)
    have VH := Lib.hid (VH.out.below hb)
    have HB := Lib.hid (HB.out.trans (hb.mono HB.out.size))
    have hs_w19 : w18.heap.size ≤ w19.heap.size := hb.size
    clear hb
    go_wp2
    go_ret
    exact ⟨rfl, HB.out⟩
end Go.Proofs.Ytcfpgjcepmebdaa.Disc
