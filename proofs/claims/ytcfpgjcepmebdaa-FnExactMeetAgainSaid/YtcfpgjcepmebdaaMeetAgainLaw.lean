/- The walk of the law FnExactMeetAgain (printed by wip/gen_disclaw.py). -/
import Derived.Test.YtcfpgjcepmebdaaDiscLaw
import Derived.Test.YtcfpgjcepmebdaaDiscMeet
import Derived.Deep.DeepCutAuto
namespace Go.Proofs.Ytcfpgjcepmebdaa.Disc
open Go.ChangeShapes Go.WideShapes Go.ChangeAt Go.RowKit
open Go.Proofs.Ytcfpgjcepmebdaa.Ints
set_option linter.unusedVariables false

theorem begin_twoL (w : World) (n m : Int) (v : Value) (n2 m2 : Int) (v2 : Value) :
    ∃ W, (w.alloc (.cells #[.int .i64 n, .int .i64 m, v] 36)).alloc (.cells #[.int .i64 n2, .int .i64 m2, v2] 36) = W ∧ LDisc W w.heap.size n m v ∧ LDisc W (w.heap.size + 1) n2 m2 v2 ∧ Below w.heap.size w W := by
  have hb := alloc_below (w.alloc (.cells #[.int .i64 n, .int .i64 m, v] 36)) (.cells #[.int .i64 n2, .int .i64 m2, v2] 36)
  have h2 := LDisc.new (w.alloc (.cells #[.int .i64 n, .int .i64 m, v] 36)) n2 m2 v2
  refine ⟨_, rfl, (LDisc.new w n m v).below hb, ?_, (alloc_below w _).trans (hb.mono (by simp))⟩
  rw [show w.heap.size + 1 = (w.alloc (.cells #[.int .i64 n, .int .i64 m, v] 36)).heap.size by simp]
  exact h2

set_option maxRecDepth 100000 in
set_option maxHeartbeats 4000000 in
theorem exactMeetAgain (n m : Int) (a : Option Addr) (c : Nat) (l : List Int) (n2 m2 : Int) (a2 : Option Addr) (c2 : Nat) (l2 : List Int) (w : World) (hm : l.length ≤ maxLen) (hr : ARow w a l) (hm2 : l2.length ≤ maxLen) (hr2 : ARow w a2 l2) :
    Calls Try.prog 9 #[.agg #[.int .i64 n, .int .i64 m, .slice a l.length c], .agg #[.int .i64 n2, .int .i64 m2, .slice a2 l2.length c2]] w fun e w' => e = .returned (.bool true) ∧ Below w.heap.size w w' := by
  have HM := Lib.hid hm
  have HR := Lib.hid hr
  have HM2 := Lib.hid hm2
  have HR2 := Lib.hid hr2
  clear hm hr hm2 hr2
  obtain ⟨N, hN⟩ : ∃ N, l.length = N := ⟨_, rfl⟩
  obtain ⟨N2, hN2⟩ : ∃ N2, l2.length = N2 := ⟨_, rfl⟩
  have HN := Lib.hid hN
  have HN2 := Lib.hid hN2
  rw [hN] at HM ⊢
  rw [hN2] at HM2 ⊢
  clear hN hN2
  obtain ⟨W, hW, hv1, hv2, hb⟩ := begin_twoL w n m (.slice a N c) n2 m2 (.slice a2 N2 c2)
  have HW := Lib.hid hW
  have LV := Lib.hid hv1
  have LU := Lib.hid hv2
  have HB := Lib.hid hb
  have hs_W : w.heap.size ≤ W.heap.size := hb.size
  clear hW hv1 hv2 hb
  have HSZ := Lib.hid (fun w' => sz_disc n m 1048576 (by decide) (by decide) a N c HM.out w')
  have hdm : decide ((-1 : Int) < 0) = true := rfl
  by_cases hbig : (1048576 : Int) - (N : Int) < 0
  · rw [if_pos hbig] at HSZ
    obtain ⟨lv_0, lv_1, lv_2⟩ := LV.out.cells
    obtain ⟨lu_0, lu_1, lu_2⟩ := LU.out.cells
    go_enter Try.func9, Try.ntmps9
    go_wp2_with fail
    rw [HW.out]
    clear HW
    go_wp2_with fail
    refine (HSZ.out _).mono ?_
    rintro e w1 ⟨rfl, hb⟩
    have LV := Lib.hid (LV.out.below hb)
    have LU := Lib.hid (LU.out.below hb)
    have HB := Lib.hid (HB.out.trans (hb.mono HB.out.size))
    have hs_w1 : W.heap.size ≤ w1.heap.size := hb.size
    clear hb
    clear lv_0 lv_1 lv_2 lu_0 lu_1 lu_2
    go_wp2
    go_ret
    exact ⟨rfl, HB.out⟩
  · rw [if_neg hbig] at HSZ
    have hn1 : N ≤ 1048576 := by omega
    have hd : decide ((1048576 : Int) - (N : Int) < 0) = false := decide_eq_false hbig
    have HSZ2 := Lib.hid (fun w' => sz_disc n2 m2 (1048576 - (N : Int)) (by omega) (by omega) a2 N2 c2 HM2.out w')
    by_cases hbig2 : (1048576 : Int) - (N : Int) - (N2 : Int) < 0
    · rw [if_pos hbig2] at HSZ2
      obtain ⟨lv_0, lv_1, lv_2⟩ := LV.out.cells
      obtain ⟨lu_0, lu_1, lu_2⟩ := LU.out.cells
      go_enter Try.func9, Try.ntmps9
      go_wp2_with fail
      rw [HW.out]
      clear HW
      go_wp2_with fail
      refine (HSZ.out _).mono ?_
      rintro e w1 ⟨rfl, hb⟩
      have LV := Lib.hid (LV.out.below hb)
      have LU := Lib.hid (LU.out.below hb)
      have HB := Lib.hid (HB.out.trans (hb.mono HB.out.size))
      have hs_w1 : W.heap.size ≤ w1.heap.size := hb.size
      clear hb
      clear lv_0 lv_1 lv_2 lu_0 lu_1 lu_2
      obtain ⟨lv_0, lv_1, lv_2⟩ := LV.out.cells
      obtain ⟨lu_0, lu_1, lu_2⟩ := LU.out.cells
      go_wp2_with fail
      refine (HSZ2.out _).mono ?_
      rintro e w2 ⟨rfl, hb⟩
      have LV := Lib.hid (LV.out.below hb)
      have LU := Lib.hid (LU.out.below hb)
      have HB := Lib.hid (HB.out.trans (hb.mono HB.out.size))
      have hs_w2 : w1.heap.size ≤ w2.heap.size := hb.size
      clear hb
      clear lv_0 lv_1 lv_2 lu_0 lu_1 lu_2
      go_wp2
      go_ret
      exact ⟨rfl, HB.out⟩
    · rw [if_neg hbig2] at HSZ2
      have hn2 : N2 ≤ 1048576 := by omega
      have hd2 : decide ((1048576 : Int) - (N : Int) - (N2 : Int) < 0) = false := decide_eq_false hbig2
      have HTO := Lib.hid (fun w' h => to_disc n m a N c l w' HN.out hn1 h)
      have HTO2 := Lib.hid (fun w' h => to_disc n2 m2 a2 N2 c2 l2 w' HN2.out hn2 h)
      have HEQ := Lib.hid (fun a1 c1 a2 c2 w' h1 h2 => eq_disc n m N c1 c2 a1 a2 l HN.out hn1 w' h1 h2)
      have HEQ2 := Lib.hid (fun a1 c1 a2 c2 w' h1 h2 => eq_disc n2 m2 N2 c1 c2 a1 a2 l2 HN2.out hn2 w' h1 h2)
      have HSP := Lib.hid (fun a' c' a2' c2' w' h h' => meet_spec n m a' N c' l n2 m2 a2' N2 c2' l2 w' HN.out hn1 h HN2.out hn2 h')
      have HIM := Lib.hid (fun a' c' a2' c2' w' h h' => meet_impl n m a' N c' l n2 m2 a2' N2 c2' l2 w' HN.out hn1 h HN2.out hn2 h')
      obtain ⟨v, hv⟩ : ∃ v, (if discB n m l && discB n2 m2 l2 then (Nat.lcm N N2 : Int) else -1) = v := ⟨_, rfl⟩
      rw [hv] at HSP HIM
      clear hv hbig hbig2
      have hne : (v != v) = false := by simp
      obtain ⟨lv_0, lv_1, lv_2⟩ := LV.out.cells
      obtain ⟨lu_0, lu_1, lu_2⟩ := LU.out.cells
      go_enter Try.func9, Try.ntmps9
      go_wp2_with fail
      rw [HW.out]
      clear HW
      go_wp2_with fail
      refine (HSZ.out _).mono ?_
      rintro e w1 ⟨rfl, hb⟩
      have LV := Lib.hid (LV.out.below hb)
      have LU := Lib.hid (LU.out.below hb)
      have HB := Lib.hid (HB.out.trans (hb.mono HB.out.size))
      have hs_w1 : W.heap.size ≤ w1.heap.size := hb.size
      clear hb
      clear lv_0 lv_1 lv_2 lu_0 lu_1 lu_2
      obtain ⟨lv_0, lv_1, lv_2⟩ := LV.out.cells
      obtain ⟨lu_0, lu_1, lu_2⟩ := LU.out.cells
      go_wp2_with fail
      refine (HSZ2.out _).mono ?_
      rintro e w2 ⟨rfl, hb⟩
      have LV := Lib.hid (LV.out.below hb)
      have LU := Lib.hid (LU.out.below hb)
      have HB := Lib.hid (HB.out.trans (hb.mono HB.out.size))
      have hs_w2 : w1.heap.size ≤ w2.heap.size := hb.size
      clear hb
      clear lv_0 lv_1 lv_2 lu_0 lu_1 lu_2
      obtain ⟨lv_0, lv_1, lv_2⟩ := LV.out.cells
      obtain ⟨lu_0, lu_1, lu_2⟩ := LU.out.cells
      have S0 : w2.cell? ⟨w.heap.size, 0, none⟩ = some (.int .i64 n) ∧ w2.cell? ⟨w.heap.size, 1, none⟩ = some (.int .i64 m) ∧ w2.cell? ⟨w.heap.size, 2, none⟩ = some (.slice a N c) ∧ w2.cell? ⟨(w.heap.size + 1), 0, none⟩ = some (.int .i64 n2) ∧ w2.cell? ⟨(w.heap.size + 1), 1, none⟩ = some (.int .i64 m2) ∧ w2.cell? ⟨(w.heap.size + 1), 2, none⟩ = some (.slice a2 N2 c2) ∧ Below w2.heap.size w2 w2 := ⟨lv_0, lv_1, lv_2, lu_0, lu_1, lu_2, Below.refl _ _⟩
      have HTA := Lib.hid (fun (w' : World) (hb : Below w2.heap.size w2 w') => HTO.out w' (HR.out.below (HB.out.trans (hb.mono HB.out.size))))
      have HTB := Lib.hid (fun (w' : World) (hb : Below w2.heap.size w2 w') => HTO2.out w' (HR2.out.below (HB.out.trans (hb.mono HB.out.size))))
      go_upto_region 8 with (fail)
      go_cut [6] (fun s6 wx => s6 = .int .i64 v ∧ Hid (Below w2.heap.size w2 wx))
      case first =>
        go_region_held3 (fun w' => w'.cell? ⟨w.heap.size, 0, none⟩ = some (.int .i64 n) ∧ w'.cell? ⟨w.heap.size, 1, none⟩ = some (.int .i64 m) ∧ w'.cell? ⟨w.heap.size, 2, none⟩ = some (.slice a N c) ∧ w'.cell? ⟨(w.heap.size + 1), 0, none⟩ = some (.int .i64 n2) ∧ w'.cell? ⟨(w.heap.size + 1), 1, none⟩ = some (.int .i64 m2) ∧ w'.cell? ⟨(w.heap.size + 1), 2, none⟩ = some (.slice a2 N2 c2) ∧ Below w2.heap.size w2 w')
          (first | with_reducible exact S0 | with_reducible exact eqs_drew S0 | with_reducible exact eqs_next (by assumption) hb | with_reducible exact eqs_drew (by assumption) | with_reducible assumption)
          ((first | (go_at_call_of 21 (Value.agg #[.int .i64 n, .int .i64 m, .slice a N c]); refine (HTA.out _ (eqs_below (by assumption))).mono ?_; rintro e wx ⟨gx, cx, rfl, hb, hox⟩; have OX := Lib.hid hox; clear hox; (first | (have OY := Lib.hid (OY.out.below hb)) | skip)) | (go_at_call_of 21 (Value.agg #[.int .i64 n2, .int .i64 m2, .slice a2 N2 c2]); refine (HTB.out _ (eqs_below (by assumption))).mono ?_; rintro e wy ⟨gy, cy, rfl, hb, hoy⟩; have OY := Lib.hid hoy; clear hoy; (first | (have OX := Lib.hid (OX.out.below hb)) | skip)) | (go_at_call 29; refine (HSP.out _ _ _ _ _ (Own.row2 OX.out) (Own.row2 OY.out)).mono ?_; rintro e wz ⟨rfl, hb⟩)))
        all_goals
          go_wp2_with fail
          go_meet
          exact ⟨rfl, Lib.hid (eqs_below (w' := wz) (by assumption))⟩
      case rest =>
        obtain ⟨rfl, HBC⟩ := hcut
        generalize wc = w9 at *
        clear S0 HTA HTB
        have hb := HBC.out
        clear HBC
        clear lv_0 lv_1 lv_2 lu_0 lu_1 lu_2
        have LV := Lib.hid (LV.out.below hb)
        have LU := Lib.hid (LU.out.below hb)
        have HB := Lib.hid (HB.out.trans (hb.mono HB.out.size))
        have hs_w9 : w2.heap.size ≤ w9.heap.size := hb.size
        clear hb
        obtain ⟨lv_0, lv_1, lv_2⟩ := LV.out.cells
        obtain ⟨lu_0, lu_1, lu_2⟩ := LU.out.cells
        go_wp2_with fail
        clear lv_0 lv_1 lv_2 lu_0 lu_1 lu_2
        refine (HTO.out _ (HR.out.below HB.out)).mono ?_
        rintro e w3 ⟨gx, cx, rfl, hb, ho⟩
        have LV := Lib.hid (LV.out.below hb)
        have LU := Lib.hid (LU.out.below hb)
        have HB := Lib.hid (HB.out.trans (hb.mono HB.out.size))
        have hs_w3 : w9.heap.size ≤ w3.heap.size := hb.size
        clear hb
        have Ox := Lib.hid ho
        have Nx := Lib.hid (ho.lt gx rfl)
        clear ho
        obtain ⟨lu_0, lu_1, lu_2⟩ := (LU.out.below (alloc_below w3 (.cells #[.int .i64 n, .int .i64 m, .slice (some ⟨gx, 0, none⟩) N cx] 26))).cells
        go_wp2_with fail
        clear lu_0 lu_1 lu_2
        have hv0 := DVar.new w3 n m (.slice (some ⟨gx, 0, none⟩) N cx)
        have hb := alloc_below w3 (.cells #[.int .i64 n, .int .i64 m, .slice (some ⟨gx, 0, none⟩) N cx] 26)
        have LV := Lib.hid (LV.out.below hb)
        have LU := Lib.hid (LU.out.below hb)
        have Ox := Lib.hid (Ox.out.below hb)
        have HB := Lib.hid (HB.out.trans (hb.mono HB.out.size))
        have hs_w4 : w3.heap.size < (w3.alloc (.cells #[.int .i64 n, .int .i64 m, .slice (some ⟨gx, 0, none⟩) N cx] 26)).heap.size := hv0.lt
        have VX := Lib.hid hv0
        clear hv0 hb
        generalize (w3.alloc (.cells #[.int .i64 n, .int .i64 m, .slice (some ⟨gx, 0, none⟩) N cx] 26)) = w4 at *
        refine (HTO2.out _ (HR2.out.below HB.out)).mono ?_
        rintro e w5 ⟨gy, cy, rfl, hb, ho⟩
        have LV := Lib.hid (LV.out.below hb)
        have LU := Lib.hid (LU.out.below hb)
        have Ox := Lib.hid (Ox.out.below hb)
        have VX := Lib.hid (VX.out.below hb)
        have HB := Lib.hid (HB.out.trans (hb.mono HB.out.size))
        have hs_w5 : w4.heap.size ≤ w5.heap.size := hb.size
        clear hb
        have Oy := Lib.hid ho
        have Ny := Lib.hid (ho.lt gy rfl)
        clear ho
        obtain ⟨vx_0, vx_1, vx_2⟩ := VX.out.cells
        clear vx_0 vx_1 vx_2
        obtain ⟨vx_0, vx_1, vx_2⟩ := (VX.out.below (alloc_below w5 (.cells #[.int .i64 n2, .int .i64 m2, .slice (some ⟨gy, 0, none⟩) N2 cy] 26))).cells
        go_wp2_with fail
        clear vx_0 vx_1 vx_2
        have hv0 := DVar.new w5 n2 m2 (.slice (some ⟨gy, 0, none⟩) N2 cy)
        have hb := alloc_below w5 (.cells #[.int .i64 n2, .int .i64 m2, .slice (some ⟨gy, 0, none⟩) N2 cy] 26)
        have LV := Lib.hid (LV.out.below hb)
        have LU := Lib.hid (LU.out.below hb)
        have Ox := Lib.hid (Ox.out.below hb)
        have VX := Lib.hid (VX.out.below hb)
        have Oy := Lib.hid (Oy.out.below hb)
        have HB := Lib.hid (HB.out.trans (hb.mono HB.out.size))
        have hs_w6 : w5.heap.size < (w5.alloc (.cells #[.int .i64 n2, .int .i64 m2, .slice (some ⟨gy, 0, none⟩) N2 cy] 26)).heap.size := hv0.lt
        have VY := Lib.hid hv0
        clear hv0 hb
        generalize (w5.alloc (.cells #[.int .i64 n2, .int .i64 m2, .slice (some ⟨gy, 0, none⟩) N2 cy] 26)) = w6 at *
        refine (HIM.out _ _ _ _ _ (Own.row2 Ox.out) (Own.row2 Oy.out)).mono ?_
        rintro e w7 ⟨rfl, hb⟩
        have LV := Lib.hid (LV.out.below hb)
        have LU := Lib.hid (LU.out.below hb)
        have Ox := Lib.hid (Ox.out.below hb)
        have VX := Lib.hid (VX.out.below hb)
        have Oy := Lib.hid (Oy.out.below hb)
        have VY := Lib.hid (VY.out.below hb)
        have HB := Lib.hid (HB.out.trans (hb.mono HB.out.size))
        have hs_w7 : w6.heap.size ≤ w7.heap.size := hb.size
        clear hb
        obtain ⟨lv_0, lv_1, lv_2⟩ := LV.out.cells
        obtain ⟨vx_0, vx_1, vx_2⟩ := VX.out.cells
        go_wp2_with fail
        have S0 : w7.cell? ⟨w3.heap.size, 0, none⟩ = some (.int .i64 n) ∧ w7.cell? ⟨w3.heap.size, 1, none⟩ = some (.int .i64 m) ∧ w7.cell? ⟨w3.heap.size, 2, none⟩ = some (.slice (some ⟨gx, 0, none⟩) N cx) ∧ w7.cell? ⟨w.heap.size, 0, none⟩ = some (.int .i64 n) ∧ w7.cell? ⟨w.heap.size, 1, none⟩ = some (.int .i64 m) ∧ w7.cell? ⟨w.heap.size, 2, none⟩ = some (.slice a N c) ∧ Below w7.heap.size w7 w7 := ⟨vx_0, vx_1, vx_2, lv_0, lv_1, lv_2, Below.refl _ _⟩
        have HXR := Lib.hid (fun (w' : World) (hb : Below w7.heap.size w7 w') => Own.row2 (Ox.out.below hb))
        have HTOW := Lib.hid (fun (w' : World) (hb : Below w7.heap.size w7 w') => HTO.out w' (HR.out.below (HB.out.trans (hb.mono HB.out.size))))
        go_region_held3 (fun w' => w'.cell? ⟨w3.heap.size, 0, none⟩ = some (.int .i64 n) ∧ w'.cell? ⟨w3.heap.size, 1, none⟩ = some (.int .i64 m) ∧ w'.cell? ⟨w3.heap.size, 2, none⟩ = some (.slice (some ⟨gx, 0, none⟩) N cx) ∧ w'.cell? ⟨w.heap.size, 0, none⟩ = some (.int .i64 n) ∧ w'.cell? ⟨w.heap.size, 1, none⟩ = some (.int .i64 m) ∧ w'.cell? ⟨w.heap.size, 2, none⟩ = some (.slice a N c) ∧ Below w7.heap.size w7 w')
          (first | exact S0 | exact eqs_drew S0 | exact eqs_next (by assumption) hb | exact eqs_next (by assumption) hb2 | exact eqs_drew (by assumption) | assumption)
          ((first | (go_at_call 21; refine (HTOW.out _ (eqs_below (by assumption))).mono ?_; rintro e wy ⟨gr_, cr_, rfl, hb, hoy⟩; have OY := Lib.hid hoy; clear hoy) | (go_at_call 22; refine (HEQ.out _ _ _ _ _ (HXR.out _ (eqs_below (by assumption))) (Own.row2 OY.out)).mono ?_; rintro e wzx ⟨rfl, hb2⟩)))
        have hbz : Below w7.heap.size w7 wzx := eqs_below (w' := wzx) (by assumption)
        clear S0 HXR HTOW hb hb2 OY
        clear vx_0 vx_1 vx_2 lv_0 lv_1 lv_2
        have LV := Lib.hid (LV.out.below hbz)
        have LU := Lib.hid (LU.out.below hbz)
        have Ox := Lib.hid (Ox.out.below hbz)
        have VX := Lib.hid (VX.out.below hbz)
        have Oy := Lib.hid (Oy.out.below hbz)
        have VY := Lib.hid (VY.out.below hbz)
        have HB := Lib.hid (HB.out.trans (hbz.mono HB.out.size))
        have hs_wzx : w7.heap.size ≤ wzx.heap.size := hbz.size
        clear hbz
        obtain ⟨lu_0, lu_1, lu_2⟩ := LU.out.cells
        obtain ⟨vy_0, vy_1, vy_2⟩ := VY.out.cells
        go_wp2_with fail
        have S0 : wzx.cell? ⟨w5.heap.size, 0, none⟩ = some (.int .i64 n2) ∧ wzx.cell? ⟨w5.heap.size, 1, none⟩ = some (.int .i64 m2) ∧ wzx.cell? ⟨w5.heap.size, 2, none⟩ = some (.slice (some ⟨gy, 0, none⟩) N2 cy) ∧ wzx.cell? ⟨(w.heap.size + 1), 0, none⟩ = some (.int .i64 n2) ∧ wzx.cell? ⟨(w.heap.size + 1), 1, none⟩ = some (.int .i64 m2) ∧ wzx.cell? ⟨(w.heap.size + 1), 2, none⟩ = some (.slice a2 N2 c2) ∧ Below wzx.heap.size wzx wzx := ⟨vy_0, vy_1, vy_2, lu_0, lu_1, lu_2, Below.refl _ _⟩
        have HXR := Lib.hid (fun (w' : World) (hb : Below wzx.heap.size wzx w') => Own.row2 (Oy.out.below hb))
        have HTOW := Lib.hid (fun (w' : World) (hb : Below wzx.heap.size wzx w') => HTO2.out w' (HR2.out.below (HB.out.trans (hb.mono HB.out.size))))
        go_region_held3 (fun w' => w'.cell? ⟨w5.heap.size, 0, none⟩ = some (.int .i64 n2) ∧ w'.cell? ⟨w5.heap.size, 1, none⟩ = some (.int .i64 m2) ∧ w'.cell? ⟨w5.heap.size, 2, none⟩ = some (.slice (some ⟨gy, 0, none⟩) N2 cy) ∧ w'.cell? ⟨(w.heap.size + 1), 0, none⟩ = some (.int .i64 n2) ∧ w'.cell? ⟨(w.heap.size + 1), 1, none⟩ = some (.int .i64 m2) ∧ w'.cell? ⟨(w.heap.size + 1), 2, none⟩ = some (.slice a2 N2 c2) ∧ Below wzx.heap.size wzx w')
          (first | exact S0 | exact eqs_drew S0 | exact eqs_next (by assumption) hb | exact eqs_next (by assumption) hb2 | exact eqs_drew (by assumption) | assumption)
          ((first | (go_at_call 21; refine (HTOW.out _ (eqs_below (by assumption))).mono ?_; rintro e wy ⟨gr_, cr_, rfl, hb, hoy⟩; have OY := Lib.hid hoy; clear hoy) | (go_at_call 22; refine (HEQ2.out _ _ _ _ _ (HXR.out _ (eqs_below (by assumption))) (Own.row2 OY.out)).mono ?_; rintro e wzy ⟨rfl, hb2⟩)))
        have hbz : Below wzx.heap.size wzx wzy := eqs_below (w' := wzy) (by assumption)
        clear S0 HXR HTOW hb hb2 OY
        clear vy_0 vy_1 vy_2 lu_0 lu_1 lu_2
        have LV := Lib.hid (LV.out.below hbz)
        have LU := Lib.hid (LU.out.below hbz)
        have Ox := Lib.hid (Ox.out.below hbz)
        have VX := Lib.hid (VX.out.below hbz)
        have Oy := Lib.hid (Oy.out.below hbz)
        have VY := Lib.hid (VY.out.below hbz)
        have HB := Lib.hid (HB.out.trans (hbz.mono HB.out.size))
        have hs_wzy : wzx.heap.size ≤ wzy.heap.size := hbz.size
        clear hbz
        go_wp2
        go_ret
        exact ⟨rfl, HB.out⟩
end Go.Proofs.Ytcfpgjcepmebdaa.Disc
