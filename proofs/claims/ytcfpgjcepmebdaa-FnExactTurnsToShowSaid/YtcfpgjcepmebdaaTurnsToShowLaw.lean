/- The walk of the law FnExactTurnsToShow (printed by wip/gen_disclaw.py). -/
import Derived.Test.YtcfpgjcepmebdaaDiscLaw
import Derived.Test.YtcfpgjcepmebdaaDiscSeen
namespace Go.Proofs.Ytcfpgjcepmebdaa.Disc
open Go.ChangeShapes Go.WideShapes Go.ChangeAt Go.RowKit
open Go.Proofs.Ytcfpgjcepmebdaa.Ints
set_option linter.unusedVariables false

set_option maxRecDepth 100000 in
set_option maxHeartbeats 4000000 in
theorem exactTurnsToShow (n m : Int) (a : Option Addr) (c : Nat) (l : List Int) (x q : Int) (w : World) (hm : l.length ≤ maxLen) (hr : ARow w a l) :
    Calls Try.prog 7 #[.agg #[.int .i64 n, .int .i64 m, .slice a l.length c], .int .i64 x, .int .i64 q] w fun e w' => e = .returned (.bool true) ∧ Below w.heap.size w w' := by
  have HM := Lib.hid hm
  have HR := Lib.hid hr
  clear hm hr
  obtain ⟨N, hN⟩ : ∃ N, l.length = N := ⟨_, rfl⟩
  have HN := Lib.hid hN
  rw [hN] at HM ⊢
  clear hN
  have HB := Lib.hid (Below.refl w.heap.size w)
  have HSZ := Lib.hid (fun w' => sz_disc n m 1048576 (by decide) (by decide) a N c HM.out w')
  by_cases hbig : (1048576 : Int) - (N : Int) < 0
  · have hd : decide ((-1 : Int) < 0) = true := rfl
    rw [if_pos hbig] at HSZ
    go_enter Try.func7, Try.ntmps7
    go_wp2_with fail
    have hv0 := LDisc.new w n m (.slice a N c)
    have hb := alloc_below w (.cells #[.int .i64 n, .int .i64 m, .slice a N c] 36)
    have HB := Lib.hid (HB.out.trans (hb.mono HB.out.size))
    have hs_w1 : w.heap.size < (w.alloc (.cells #[.int .i64 n, .int .i64 m, .slice a N c] 36)).heap.size := hv0.lt
    have LV := Lib.hid hv0
    clear hv0 hb
    generalize (w.alloc (.cells #[.int .i64 n, .int .i64 m, .slice a N c] 36)) = w1 at *
    refine (HSZ.out _).mono ?_
    rintro e w2 ⟨rfl, hb⟩
    have LV := Lib.hid (LV.out.below hb)
    have HB := Lib.hid (HB.out.trans (hb.mono HB.out.size))
    have hs_w2 : w1.heap.size ≤ w2.heap.size := hb.size
    clear hb
    go_wp2
    go_ret
    exact ⟨rfl, HB.out⟩
  · rw [if_neg hbig] at HSZ
    have hn1 : N ≤ 1048576 := by omega
    have hd : decide ((1048576 : Int) - (N : Int) < 0) = false := decide_eq_false hbig
    have HTO := Lib.hid (fun w' h => to_disc n m a N c l w' HN.out hn1 h)
    have HEQ := Lib.hid (fun a1 c1 a2 c2 w' h1 h2 => eq_disc n m N c1 c2 a1 a2 l HN.out hn1 w' h1 h2)
    have hp0 := True.intro
    have HSP := Lib.hid (fun a' c' w' h => show_spec n m x q a' N c' l w' HN.out hn1 h)
    have HIM := Lib.hid (fun a' c' w' h => show_impl n m x q a' N c' l w' HN.out hn1 h)
    obtain ⟨v, hv⟩ : ∃ v, showV n m l x q = v := ⟨_, rfl⟩
    rw [hv] at HSP HIM
    clear hv hbig
    have hne : (v != v) = false := by simp
    go_enter Try.func7, Try.ntmps7
    go_wp2_with fail
    have hv0 := LDisc.new w n m (.slice a N c)
    have hb := alloc_below w (.cells #[.int .i64 n, .int .i64 m, .slice a N c] 36)
    have HB := Lib.hid (HB.out.trans (hb.mono HB.out.size))
    have hs_w1 : w.heap.size < (w.alloc (.cells #[.int .i64 n, .int .i64 m, .slice a N c] 36)).heap.size := hv0.lt
    have LV := Lib.hid hv0
    clear hv0 hb
    generalize (w.alloc (.cells #[.int .i64 n, .int .i64 m, .slice a N c] 36)) = w1 at *
    refine (HSZ.out _).mono ?_
    rintro e w2 ⟨rfl, hb⟩
    have LV := Lib.hid (LV.out.below hb)
    have HB := Lib.hid (HB.out.trans (hb.mono HB.out.size))
    have hs_w2 : w1.heap.size ≤ w2.heap.size := hb.size
    clear hb
    obtain ⟨lv_0, lv_1, lv_2⟩ := LV.out.cells
    go_wp2_with fail
    clear lv_0 lv_1 lv_2
    refine (HTO.out _ (HR.out.below HB.out)).mono ?_
    rintro e w3 ⟨gq, cq, rfl, hb, ho⟩
    have LV := Lib.hid (LV.out.below hb)
    have HB := Lib.hid (HB.out.trans (hb.mono HB.out.size))
    have hs_w3 : w2.heap.size ≤ w3.heap.size := hb.size
    clear hb
    have Oq := Lib.hid ho
    have Nq := Lib.hid (ho.lt gq rfl)
    clear ho
    go_wp2_with fail
    refine (HSP.out _ _ _ (Own.row2 Oq.out)).mono ?_
    rintro e w4 ⟨rfl, hb⟩
    have LV := Lib.hid (LV.out.below hb)
    have Oq := Lib.hid (Oq.out.below hb)
    have HB := Lib.hid (HB.out.trans (hb.mono HB.out.size))
    have hs_w4 : w3.heap.size ≤ w4.heap.size := hb.size
    clear hb
    obtain ⟨lv_0, lv_1, lv_2⟩ := LV.out.cells
    go_wp2_with fail
    clear lv_0 lv_1 lv_2
    refine (HTO.out _ (HR.out.below HB.out)).mono ?_
    rintro e w5 ⟨gx, cx, rfl, hb, ho⟩
    have LV := Lib.hid (LV.out.below hb)
    have Oq := Lib.hid (Oq.out.below hb)
    have HB := Lib.hid (HB.out.trans (hb.mono HB.out.size))
    have hs_w5 : w4.heap.size ≤ w5.heap.size := hb.size
    clear hb
    have Ox := Lib.hid ho
    have Nx := Lib.hid (ho.lt gx rfl)
    clear ho
    go_wp2_with fail
    have hv0 := DVar.new w5 n m (.slice (some ⟨gx, 0, none⟩) N cx)
    have hb := alloc_below w5 (.cells #[.int .i64 n, .int .i64 m, .slice (some ⟨gx, 0, none⟩) N cx] 26)
    have LV := Lib.hid (LV.out.below hb)
    have Oq := Lib.hid (Oq.out.below hb)
    have Ox := Lib.hid (Ox.out.below hb)
    have HB := Lib.hid (HB.out.trans (hb.mono HB.out.size))
    have hs_w6 : w5.heap.size < (w5.alloc (.cells #[.int .i64 n, .int .i64 m, .slice (some ⟨gx, 0, none⟩) N cx] 26)).heap.size := hv0.lt
    have VX := Lib.hid hv0
    clear hv0 hb
    generalize (w5.alloc (.cells #[.int .i64 n, .int .i64 m, .slice (some ⟨gx, 0, none⟩) N cx] 26)) = w6 at *
    refine (HIM.out _ _ _ (Own.row2 Ox.out)).mono ?_
    rintro e w7 ⟨rfl, hb⟩
    have LV := Lib.hid (LV.out.below hb)
    have Oq := Lib.hid (Oq.out.below hb)
    have Ox := Lib.hid (Ox.out.below hb)
    have VX := Lib.hid (VX.out.below hb)
    have HB := Lib.hid (HB.out.trans (hb.mono HB.out.size))
    have hs_w7 : w6.heap.size ≤ w7.heap.size := hb.size
    clear hb
    obtain ⟨lv_0, lv_1, lv_2⟩ := LV.out.cells
    obtain ⟨vx_0, vx_1, vx_2⟩ := VX.out.cells
    go_wp2_with fail
    have S0 : w7.cell? ⟨w5.heap.size, 0, none⟩ = some (.int .i64 n) ∧ w7.cell? ⟨w5.heap.size, 1, none⟩ = some (.int .i64 m) ∧ w7.cell? ⟨w5.heap.size, 2, none⟩ = some (.slice (some ⟨gx, 0, none⟩) N cx) ∧ w7.cell? ⟨w.heap.size, 0, none⟩ = some (.int .i64 n) ∧ w7.cell? ⟨w.heap.size, 1, none⟩ = some (.int .i64 m) ∧ w7.cell? ⟨w.heap.size, 2, none⟩ = some (.slice a N c) ∧ Below w7.heap.size w7 w7 := ⟨vx_0, vx_1, vx_2, lv_0, lv_1, lv_2, Below.refl _ _⟩
    have HXR := Lib.hid (fun (w' : World) (hb : Below w7.heap.size w7 w') => Own.row2 (Ox.out.below hb))
    have HTOW := Lib.hid (fun (w' : World) (hb : Below w7.heap.size w7 w') => HTO.out w' (HR.out.below (HB.out.trans (hb.mono HB.out.size))))
    go_region_held3 (fun w' => w'.cell? ⟨w5.heap.size, 0, none⟩ = some (.int .i64 n) ∧ w'.cell? ⟨w5.heap.size, 1, none⟩ = some (.int .i64 m) ∧ w'.cell? ⟨w5.heap.size, 2, none⟩ = some (.slice (some ⟨gx, 0, none⟩) N cx) ∧ w'.cell? ⟨w.heap.size, 0, none⟩ = some (.int .i64 n) ∧ w'.cell? ⟨w.heap.size, 1, none⟩ = some (.int .i64 m) ∧ w'.cell? ⟨w.heap.size, 2, none⟩ = some (.slice a N c) ∧ Below w7.heap.size w7 w')
      (first | exact S0 | exact eqs_drew S0 | exact eqs_next (by assumption) hb | exact eqs_next (by assumption) hb2 | exact eqs_drew (by assumption) | assumption)
      ((first | (go_at_call 21; refine (HTOW.out _ (eqs_below (by assumption))).mono ?_; rintro e wy ⟨gy, cy, rfl, hb, hoy⟩; have OY := Lib.hid hoy; clear hoy) | (go_at_call 22; refine (HEQ.out _ _ _ _ _ (HXR.out _ (eqs_below (by assumption))) (Own.row2 OY.out)).mono ?_; rintro e wzx ⟨rfl, hb2⟩)))
    have hbz : Below w7.heap.size w7 wzx := eqs_below (w' := wzx) (by assumption)
    clear S0 HXR HTOW hb hb2 OY
    clear vx_0 vx_1 vx_2 lv_0 lv_1 lv_2
    have LV := Lib.hid (LV.out.below hbz)
    have Oq := Lib.hid (Oq.out.below hbz)
    have Ox := Lib.hid (Ox.out.below hbz)
    have VX := Lib.hid (VX.out.below hbz)
    have HB := Lib.hid (HB.out.trans (hbz.mono HB.out.size))
    have hs_wzx : w7.heap.size ≤ wzx.heap.size := hbz.size
    clear hbz
    go_wp2
    go_ret
    exact ⟨rfl, HB.out⟩
end Go.Proofs.Ytcfpgjcepmebdaa.Disc
