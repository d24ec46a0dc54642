/- The property of chapter 18: the walk (printed by wip/gen_discslaw.py). -/
import Derived.Test.YtcfpgjcepmebdaaDiscsMath
import Derived.Test.YtcfpgjcepmebdaaDrawDiscs
import Derived.Test.YtcfpgjcepmebdaaDiscPer
import Derived.Test.YtcfpgjcepmebdaaDiscMeet
import Derived.Test.YtcfpgjcepmebdaaDiscTurn
import Derived.Test.YtcfpgjcepmebdaaAtB
import Derived.Test.YtcfpgjcepmebdaaBig
import Derived.Lib.QuietBelow
import Derived.Deep.RegionHeld3
import Derived.Deep.DeepCutAuto
import Derived.OrdersHeld
import Derived.Deep.RegionHeld
namespace Go.Proofs.Ytcfpgjcepmebdaa.Disc
open Go.ChangeShapes Go.WideShapes Go.ChangeAt Go.RowKit Go.Sort
open Go.Proofs.Ytcfpgjcepmebdaa.Draw (RowIn big_at at_below RowIn.below heap_new)
open Go.Proofs.Ytcfpgjcepmebdaa.Ints
set_option linter.unusedVariables false

set_option maxRecDepth 100000 in
set_option maxHeartbeats 8000000 in
theorem discs (ca : Option Addr) (cl cc : Nat) (w : World) (hm : cl ≤ maxLen) (hr : RowIn w ca cl) :
    Calls Try.prog 3 #[.slice ca cl cc] w fun e w' => e = .returned (.bool true) ∧ Below w.heap.size w w' := by
  by_cases hbig : 1048576 < cl
  · have hd : decide (1048576 < (cl : Int)) = true := by simp; omega
    go_enter Try.func3, Try.ntmps3
    go_wp2_with fail
    refine (big_at ca cl cc w hm).mono ?_
    rintro e w' ⟨rfl, rfl⟩
    rw [hd]
    go_wp2
    go_ret
    exact ⟨rfl, Below.refl _ _⟩
  · have hd : decide (1048576 < (cl : Int)) = false := by simp; omega
    have HR := Lib.hid hr
    clear hr
    go_enter Try.func3, Try.ntmps3
    go_wp2_with fail
    refine (big_at ca cl cc w hm).mono ?_
    rintro e w' ⟨rfl, rfl⟩
    rw [hd]
    go_wp2_with fail
    refine drawDiscs_get ca cl cc w hm HR.out ?_
    intro N M l g c N2 M2 l2 g2 c2 w0 D1 D2 hb0
    clear hd hbig
    have hok := drawn_ok D1.two D1.most D1.now D1.len D1.small
    have hok2 := drawn_ok D2.two D2.most D2.now D2.len D2.small
    obtain ⟨p, hp⟩ := per_some l (by have := D1.len; have := D1.two; omega)
    obtain ⟨W, hW, hA, hE, hbW⟩ := begin_two w0 (N : Int) (M : Int) (some ⟨g, 0, none⟩) N c l (N2 : Int) (M2 : Int) (some ⟨g2, 0, none⟩) N2 c2 l2 (Own.row2 D1.own) (Own.row2 D2.own)
    have HB := Lib.hid (hb0.trans (hbW.mono hb0.size))
    have HBE := Lib.hid (show w0.heap.size + 1 ≠ w0.heap.size ∧ w.heap.size ≤ w0.heap.size from ⟨by omega, hb0.size⟩)
    have HW := Lib.hid hW
    have HA := Lib.hid hA
    have HE := Lib.hid hE
    have h2 := D1.two
    have h11 := D1.most
    have hMN := D1.now
    have h22 := D2.two
    have h211 := D2.most
    have hp1 := hp.one
    have hp2 := hp.le
    have hpd := hp.dvd
    rw [D1.len] at hp2 hpd
    have HN := Lib.hid D1.len
    have HN2 := Lib.hid D2.len
    have HSM := Lib.hid D1.small
    have HP := Lib.hid hp
    have HOK := Lib.hid hok
    have HOK2 := Lib.hid hok2
    have HPER := Lib.hid (fun w' h => period_impl (N : Int) (M : Int) p (some ⟨g, 0, none⟩) N c l w' HN.out (by omega) h (fun _ => HP.out))
    rw [hok, if_pos rfl] at HPER
    have HTU := Lib.hid (fun (m b : Int) g' c' w' h => turn_impl (N : Int) m b g' N c' l w' HN.out (by omega) h)
    have HMT := Lib.hid (fun w' h h' => meet_impl (N : Int) (M : Int) (some ⟨g, 0, none⟩) N c l (N2 : Int) (M2 : Int) (some ⟨g2, 0, none⟩) N2 c2 l2 w' HN.out (by omega) h HN2.out (by omega) h')
    rw [hok, hok2, Bool.true_and, if_pos rfl] at HMT
    have HSN := Lib.hid (fun (m x : Int) a' c' w' h => shown_impl (N : Int) m x a' N c' l w' HN.out (by omega) h)
    have HSW := Lib.hid (fun (m x q : Int) a' c' w' h => show_impl (N : Int) m x q a' N c' l w' HN.out (by omega) h)
    have HDK := Lib.hid (fun (m : Int) a' c' w' h => ok_impl (N : Int) m a' N c' l w' HN.out (by omega) h)
    have hzN : ((N : Int) == 0) = false := by simp; omega
    have hzN2 : ((N : Int) != 0) = true := by simp; omega
    have hzN3 : ¬ (N : Int) = 0 := by omega
    have hzN4 : ¬ N = 0 := by omega
    clear hW hA hE hbW hb0 D1 D2 hok hok2 hp
    obtain ⟨k0, k1, k2⟩ := HA.out.var.cells
    obtain ⟨e0, e1, e2⟩ := HE.out.var.cells
    go_wp2_with fail
    rw [HW.out]
    clear HW
    go_wp2_with fail
    refine (HPER.out _ HA.out.row).mono ?_
    rintro e w1 ⟨rfl, hb⟩
    have HA := Lib.hid (HA.out.below hb)
    have HE := Lib.hid (HE.out.below hb)
    have HB := Lib.hid (HB.out.trans (hb.mono HB.out.size))
    clear hb HPER
    clear k0 k1 k2 e0 e1 e2
    obtain ⟨k0, k1, k2⟩ := HA.out.var.cells
    obtain ⟨e0, e1, e2⟩ := HE.out.var.cells
    obtain ⟨A, hA, hat⟩ := at_below ca cl cc 0 (by decide) w hm HR.out
    rw [show ((0 : Nat) : Int) = 0 from rfl] at hat
    have HAT := Lib.hid hat
    obtain ⟨A1, hA1, hat1⟩ := at_below ca cl cc 1 (by decide) w hm HR.out
    rw [show ((1 : Nat) : Int) = 1 from rfl] at hat1
    have HAT1 := Lib.hid hat1
    obtain ⟨X, hX⟩ : ∃ X, A % N = X := ⟨_, rfl⟩
    have hXN : X < N := by rw [← hX]; exact Nat.mod_lt _ (by omega)
    have ht0 : Int.tmod (A : Int) (N : Int) = (X : Int) := by rw [Int.tmod_eq_emod_of_nonneg (by omega), ← hX]; omega
    have hw0 : IntKind.i64.wrap (X : Int) = (X : Int) := by rw [IntKind.wrap_i64]; omega
    clear hX hat hat1
    have S0 : w1.cell? ⟨w0.heap.size, 0, none⟩ = some (.int .i64 (N : Int)) ∧ w1.cell? ⟨w0.heap.size, 1, none⟩ = some (.int .i64 (M : Int)) ∧ w1.cell? ⟨w0.heap.size, 2, none⟩ = some (.slice (some ⟨g, 0, none⟩) N c) ∧ Below w1.heap.size w1 w1 := ⟨k0, k1, k2, Below.refl _ _⟩
    have HBX := Lib.hid (fun (w' : World) (hb : Below w1.heap.size w1 w') => HB.out.trans (hb.mono HB.out.size))
    go_upto_region 5 with (fail)
    go_cut [6] (fun s wx => s = .int .i64 (X : Int) ∧ Hid (Below w1.heap.size w1 wx))
    case first =>
      go_region_held3 (fun w' => w'.cell? ⟨w0.heap.size, 0, none⟩ = some (.int .i64 (N : Int)) ∧ w'.cell? ⟨w0.heap.size, 1, none⟩ = some (.int .i64 (M : Int)) ∧ w'.cell? ⟨w0.heap.size, 2, none⟩ = some (.slice (some ⟨g, 0, none⟩) N c) ∧ Below w1.heap.size w1 w')
        (first | with_reducible exact S0 | with_reducible exact th_drew S0 | with_reducible exact th_drew (by assumption) | with_reducible assumption)
        ((first | (go_at_call 13; refine (HAT.out _ (HBX.out _ (th_below (by assumption)))).mono ?_; rintro e x1 ⟨rfl, rfl⟩)))
      all_goals
        go_wp2_with fail
        go_meet
        exact ⟨rfl, Lib.hid (th_below (by first | exact S0 | exact th_drew S0 | assumption))⟩
    case rest =>
      obtain ⟨rfl, HBC⟩ := hcut
      generalize wc = w2 at *
      clear S0 HBX ht0 hw0
      have hb := HBC.out
      clear HBC
      have HA := Lib.hid (HA.out.below hb)
      have HE := Lib.hid (HE.out.below hb)
      have HB := Lib.hid (HB.out.trans (hb.mono HB.out.size))
      clear hb
      clear k0 k1 k2 e0 e1 e2
      obtain ⟨k0, k1, k2⟩ := HA.out.var.cells
      obtain ⟨e0, e1, e2⟩ := HE.out.var.cells
      obtain ⟨b, hb⟩ : ∃ b, (A1 : Int) - 128 = b := ⟨_, rfl⟩
      have eb : IntKind.i64.wrap ((A1 : Int) - 128) = b := by rw [hb, IntKind.wrap_i64]; omega
      have hb0 : -128 ≤ b := by omega
      have hb1 : b ≤ 127 := by omega
      clear hb hA
      go_wp2_with fail
      refine (HAT1.out _ HB.out).mono ?_
      rintro e x1 ⟨rfl, rfl⟩
      go_wp2_with fail
      clear eb hA1 HAT HAT1
      refine (HTU.out _ _ _ _ _ HA.out.row).mono ?_
      rintro e w3 ⟨gt, ct, rfl, hb, ho⟩
      obtain ⟨T, hT⟩ : ∃ T : Nat, turnV (N : Int) (M : Int) l b = (T : Int) := ⟨(turnV (N : Int) (M : Int) l b).toNat, by have := (turnV_in HOK.out b).1; omega⟩
      have htn := turn_ok HOK.out b
      have htb := turn_back HOK.out (show -1000 ≤ b by omega) (show b ≤ 1000 by omega)
      rw [hT] at htn htb
      rw [hT]
      have HTN := Lib.hid htn
      have HTBK := Lib.hid htb
      have HA := Lib.hid (HA.out.below hb)
      have HE := Lib.hid (HE.out.below hb)
      have HB := Lib.hid (HB.out.trans (hb.mono HB.out.size))
      have HOT := Lib.hid (Own.row2 ho)
      clear hb ho hT htn htb
      clear k0 k1 k2 e0 e1 e2
      have hv := DVar.new w3 (N : Int) (T : Int) (.slice (some ⟨gt, 0, none⟩) N ct)
      have hb := alloc_below w3 (.cells #[.int .i64 (N : Int), .int .i64 (T : Int), .slice (some ⟨gt, 0, none⟩) N ct] 26)
      have HT : Hid (At _ w3.heap.size (N : Int) (T : Int) (some ⟨gt, 0, none⟩) N ct l) := Lib.hid ⟨hv, HOT.out.below hb⟩
      have HA := Lib.hid (HA.out.below hb)
      have HE := Lib.hid (HE.out.below hb)
      have HB := Lib.hid (HB.out.trans (hb.mono HB.out.size))
      clear hb hv HOT
      obtain ⟨k0, k1, k2⟩ := HA.out.var.cells
      obtain ⟨e0, e1, e2⟩ := HE.out.var.cells
      obtain ⟨t0, t1, t2⟩ := HT.out.var.cells
      go_wp2_with fail
      generalize (w3.alloc (.cells #[.int .i64 (N : Int), .int .i64 (T : Int), .slice (some ⟨gt, 0, none⟩) N ct] 26)) = w4 at *
      obtain ⟨bt, hbt⟩ : ∃ bt, w3.heap.size = bt := ⟨_, rfl⟩
      rw [hbt] at HT t0 t1 t2 ⊢
      clear hbt t0 t1 t2
      clear k0 k1 k2 e0 e1 e2
      refine (HMT.out _ HA.out.row HE.out.row).mono ?_
      rintro e w5 ⟨rfl, hb⟩
      have HA := Lib.hid (HA.out.below hb)
      have HE := Lib.hid (HE.out.below hb)
      have HT := Lib.hid (HT.out.below hb)
      have HB := Lib.hid (HB.out.trans (hb.mono HB.out.size))
      clear hb HMT
      obtain ⟨k0, k1, k2⟩ := HA.out.var.cells
      obtain ⟨e0, e1, e2⟩ := HE.out.var.cells
      obtain ⟨t0, t1, t2⟩ := HT.out.var.cells
      have hlf := lcm_facts (show 0 < N by omega) (show 0 < N2 by omega)
      have hlm : N * N2 ≤ 11 * 11 := Nat.mul_le_mul h11 h211
      obtain ⟨Lm, hLm⟩ : ∃ Lm, Nat.lcm N N2 = Lm := ⟨_, rfl⟩
      obtain ⟨NN, hNN⟩ : ∃ NN, N * N2 = NN := ⟨_, rfl⟩
      rw [hLm, hNN] at hlf
      rw [hNN] at hlm
      rw [hLm]
      obtain ⟨lf1, lf2, lf3, lf4⟩ := hlf
      have a0 : decide ((p : Int) < 1) = false := decide_eq_false (by omega)
      have a1 : Int.tmod (N : Int) (p : Int) = 0 := by rw [Int.tmod_eq_emod_of_nonneg (by omega)]; omega
      have a2 : decide ((Lm : Int) < 1) = false := decide_eq_false (by omega)
      have a3 : Int.tmod (Lm : Int) (N : Int) = 0 := by rw [Int.tmod_eq_emod_of_nonneg (by omega)]; omega
      have a4 : Int.tmod (Lm : Int) (N2 : Int) = 0 := by rw [Int.tmod_eq_emod_of_nonneg (by omega)]; omega
      have a5 : IntKind.i64.wrap ((N : Int) * (N2 : Int)) = (NN : Int) := by rw [← Int.natCast_mul, hNN, IntKind.wrap_i64]; omega
      have a6 : decide ((NN : Int) < (Lm : Int)) = false := decide_eq_false (by omega)
      have a7 : ¬ (p : Int) = 0 := by omega
      have a8 : ((p : Int) == 0) = false := by simp; omega
      have a9 : ¬ (N2 : Int) = 0 := by omega
      have a10 : ((N2 : Int) == 0) = false := by simp; omega
      have a11 : ¬ p = 0 := by omega
      have a12 : ¬ N2 = 0 := by omega
      have a13 : ¬ NN < Lm := by omega
      have a14 : decide (NN < Lm) = false := decide_eq_false a13
      clear hLm hNN lf1 lf2 lf3 lf4 hlm hpd h22 h211
      go_wp2_with fail
      refine (HDK.out _ _ _ _ HT.out.row).mono ?_
      rintro e w6 ⟨rfl, hb⟩
      rw [HTN.out]
      have HA := Lib.hid (HA.out.below hb)
      have HE := Lib.hid (HE.out.below hb)
      have HT := Lib.hid (HT.out.below hb)
      have HB := Lib.hid (HB.out.trans (hb.mono HB.out.size))
      clear hb HDK t0 t1 t2
      clear k0 k1 k2 e0 e1 e2
      obtain ⟨k0, k1, k2⟩ := HA.out.var.cells
      obtain ⟨e0, e1, e2⟩ := HE.out.var.cells
      obtain ⟨t0, t1, t2⟩ := HT.out.var.cells
      go_wp2_with fail
      have HA6 := HA
      have HE6 := HE
      have HT6 := HT
      have HB6 := HB
      clear HE HT HB t0 t1 t2 a0 a1 a2 a3 a4 a5 a6 a7 a8 a9 a10 a11 a12 a13 a14 e0 e1 e2
      clear k0 k1 k2
      go_loopw [10] (fun i wr => ∃ q : Nat, 1 ≤ q ∧ q ≤ p ∧ i = .int .i64 (q : Int) ∧ Hid (Below w6.heap.size w6 wr)) (fun i _ => p - (intOf i).toNat)
      case atStart => exact ⟨1, Nat.le_refl _, hp1, rfl, Lib.hid (Below.refl _ _)⟩
      case round =>
        rename World => wq
        clear HA
        obtain ⟨q, hq1, hq, rfl, HBW⟩ := hrel
        have HA := Lib.hid (HA6.out.below HBW.out)
        obtain ⟨k0, k1, k2⟩ := HA.out.var.cells
        have q0 : (0 : Int) ≤ (q : Int) := Int.natCast_nonneg _
        by_cases hlt : q < p
        · have q1 : (q : Int) < (p : Int) := by omega
          go_wp2_with fail
          go_loopw [11, 12] (fun s i wr => ∃ j : Nat, j ≤ N ∧ i = .int .i64 (j : Int) ∧ s = .bool (eqB l M q j) ∧ Hid (Below w6.heap.size w6 wr)) (fun _ i _ => N - (intOf i).toNat)
          case atStart => exact ⟨0, Nat.zero_le _, rfl, by rw [eqB_zero], HBW⟩
          case round =>
            clear HBW HA k0 k1 k2
            obtain ⟨j, hj, rfl, rfl, HBW⟩ := hrel
            have HA := Lib.hid (HA6.out.below HBW.out)
            obtain ⟨k0, k1, k2⟩ := HA.out.var.cells
            by_cases hjt : j < N
            · have q4 : (0 : Int) ≤ (j : Int) := Int.natCast_nonneg _
              have q5 : (j : Int) < (N : Int) := by omega
              cases hsb : eqB l M q j with
              | false =>
                have HN2 := Lib.hid (eqB_off hsb)
                clear hsb
                go_wp2_with fail
                go_quiet (fail)
                go_wp2
                go_roundw
                case rel => exact ⟨j + 1, by omega, by go_num, by rw [HN2.out], Lib.hid (HBW.out.trans ((drewN_below _ _).mono HBW.out.size))⟩
                case measure => simp [intOf]; omega
              | true =>
                have h1 := fun g' c' w' h => HSN.out (((M + q) % N : Nat) : Int) (j : Int) g' c' w' h
                rw [shown_turned HOK.out hjt] at h1
                have h2 := fun w' h => HSN.out (M : Int) (j : Int) (some ⟨g, 0, none⟩) c w' h
                rw [shown_nat HOK.out hjt] at h2
                have h3 := fun w' h => HTU.out (M : Int) (q : Int) g c w' h
                rw [turn_nat HOK.out (show q ≤ 1000 by omega)] at h3
                obtain ⟨Tq, hTq⟩ : ∃ Tq, (M + q) % N = Tq := ⟨_, rfl⟩
                obtain ⟨x1, hx1⟩ : ∃ x1, pc l (M + q + j) = x1 := ⟨_, rfl⟩
                obtain ⟨x2, hx2⟩ : ∃ x2, pc l (M + j) = x2 := ⟨_, rfl⟩
                rw [hTq] at h1 h3
                rw [hx1] at h1
                rw [hx2] at h2
                have H1 := Lib.hid (fun g' => h1 (some ⟨g', 0, none⟩))
                have H2 := Lib.hid h2
                have H3 := Lib.hid h3
                clear h1 h2 h3 hTq
                have HX1 := Lib.hid hx1
                have HX2 := Lib.hid hx2
                have HSB := Lib.hid hsb
                clear hx1 hx2 hsb
                have HN3 := Lib.hid (show eqB l M q (j + 1) = (x1 == x2) by
                  by_cases he : x1 = x2
                  · rw [eqB_yes HSB.out (show pc l (M + q + j) = pc l (M + j) by rw [HX1.out, HX2.out, he])]
                    simp [he]
                  · rw [eqB_no (l := l) (M := M) (q := q) (j := j) (by rw [HX1.out, HX2.out]; exact he)]
                    symm; simpa using he)
                clear HX1 HX2 HSB
                have S0 : wr.cell? ⟨w0.heap.size, 0, none⟩ = some (.int .i64 (N : Int)) ∧ wr.cell? ⟨w0.heap.size, 1, none⟩ = some (.int .i64 (M : Int)) ∧ wr.cell? ⟨w0.heap.size, 2, none⟩ = some (.slice (some ⟨g, 0, none⟩) N c) ∧ Below wr.heap.size wr wr := ⟨k0, k1, k2, Below.refl _ _⟩
                have HBX := Lib.hid (fun (w' : World) (hb : Below wr.heap.size wr w') => (HA.out.below hb).row)
                go_upto_region 18 with (fail)
                go_region_held3 (fun w' => w'.cell? ⟨w0.heap.size, 0, none⟩ = some (.int .i64 (N : Int)) ∧ w'.cell? ⟨w0.heap.size, 1, none⟩ = some (.int .i64 (M : Int)) ∧ w'.cell? ⟨w0.heap.size, 2, none⟩ = some (.slice (some ⟨g, 0, none⟩) N c) ∧ Below wr.heap.size wr w')
                  (first | with_reducible exact S0 | with_reducible exact th_drew S0 | with_reducible exact th_next (by assumption) hb | with_reducible exact th_drew (by assumption) | with_reducible assumption)
                  ((first | (go_at_call 14; refine (H3.out _ (HBX.out _ (th_below (by assumption)))).mono ?_; rintro e wx ⟨gz, cz, rfl, hb, ho⟩; have OZ := Lib.hid (Own.row2 ho); clear ho) | (go_at_call_of 17 (Value.agg #[.int .i64 (N : Int), .int .i64 (M : Int), .slice (some ⟨g, 0, none⟩) N c]); refine (H2.out _ (HBX.out _ (th_below (by assumption)))).mono ?_; rintro e wy ⟨rfl, hb⟩; (first | (have OZ := Lib.hid (OZ.out.below hb)) | skip)) | (go_at_call 17; refine (H1.out _ _ _ OZ.out).mono ?_; rintro e wz ⟨rfl, hb⟩)))
                all_goals
                  go_wp2
                  go_roundw
                  case rel => exact ⟨j + 1, by omega, by go_num, by rw [HN3.out], Lib.hid (HBW.out.trans ((th_below (by assumption)).mono HBW.out.size))⟩
                  case measure => simp [intOf]; omega
            · obtain rfl : j = N := by omega
              have HEN := Lib.hid (show eqB l M q j = false by have := eqB_end (M := M) HP.out hq1 hlt; rw [HN.out] at this; exact this)
              rw [HEN.out]
              clear hjt
              go_wp2
              go_roundw
              case rel => exact ⟨q + 1, by omega, by omega, by go_num, HBW⟩
              case measure => simp [intOf]; omega
        · obtain rfl : q = p := by omega
          clear hlt
          go_wp2_with fail
          go_loopw [13] (fun i wr => ∃ j : Nat, j ≤ N ∧ i = .int .i64 (j : Int) ∧ Hid (Below w6.heap.size w6 wr)) (fun i _ => N - (intOf i).toNat)
          case atStart => exact ⟨0, Nat.zero_le _, rfl, HBW⟩
          case round =>
            clear HBW HA k0 k1 k2
            obtain ⟨j, hj, rfl, HBW⟩ := hrel
            have HA := Lib.hid (HA6.out.below HBW.out)
            obtain ⟨k0, k1, k2⟩ := HA.out.var.cells
            by_cases hjt : j < N
            · have q4 : (0 : Int) ≤ (j : Int) := Int.natCast_nonneg _
              have q5 : (j : Int) < (N : Int) := by omega
              have h1 := fun g' c' w' h => HSN.out (((M + q) % N : Nat) : Int) (j : Int) g' c' w' h
              rw [shown_turned HOK.out hjt, per_same HP.out] at h1
              have h2 := fun w' h => HSN.out (M : Int) (j : Int) (some ⟨g, 0, none⟩) c w' h
              rw [shown_nat HOK.out hjt] at h2
              have h3 := fun w' h => HTU.out (M : Int) (q : Int) g c w' h
              rw [turn_nat HOK.out (show q ≤ 1000 by omega)] at h3
              obtain ⟨Tq, hTq⟩ : ∃ Tq, (M + q) % N = Tq := ⟨_, rfl⟩
              obtain ⟨x1, hx1⟩ : ∃ x1, pc l (M + j) = x1 := ⟨_, rfl⟩
              rw [hTq] at h1 h3
              rw [hx1] at h1 h2
              have H1 := Lib.hid (fun g' => h1 (some ⟨g', 0, none⟩))
              have H2 := Lib.hid h2
              have H3 := Lib.hid h3
              have hxx : (x1 != x1) = false := by simp
              clear h1 h2 h3 hTq hx1
              have S0 : wr.cell? ⟨w0.heap.size, 0, none⟩ = some (.int .i64 (N : Int)) ∧ wr.cell? ⟨w0.heap.size, 1, none⟩ = some (.int .i64 (M : Int)) ∧ wr.cell? ⟨w0.heap.size, 2, none⟩ = some (.slice (some ⟨g, 0, none⟩) N c) ∧ Below wr.heap.size wr wr := ⟨k0, k1, k2, Below.refl _ _⟩
              have HBX := Lib.hid (fun (w' : World) (hb : Below wr.heap.size wr w') => (HA.out.below hb).row)
              go_upto_region 24 with (fail)
              go_cut [126] (fun s wx => s = .bool (false) ∧ Hid (Below wr.heap.size wr wx))
              case first =>
                go_region_held3 (fun w' => w'.cell? ⟨w0.heap.size, 0, none⟩ = some (.int .i64 (N : Int)) ∧ w'.cell? ⟨w0.heap.size, 1, none⟩ = some (.int .i64 (M : Int)) ∧ w'.cell? ⟨w0.heap.size, 2, none⟩ = some (.slice (some ⟨g, 0, none⟩) N c) ∧ Below wr.heap.size wr w')
                  (first | with_reducible exact S0 | with_reducible exact th_drew S0 | with_reducible exact th_next (by assumption) hb | with_reducible exact th_drew (by assumption) | with_reducible assumption)
                  ((first | (go_at_call 14; refine (H3.out _ (HBX.out _ (th_below (by assumption)))).mono ?_; rintro e wx ⟨gz, cz, rfl, hb, ho⟩; have OZ := Lib.hid (Own.row2 ho); clear ho) | (go_at_call_of 17 (Value.agg #[.int .i64 (N : Int), .int .i64 (M : Int), .slice (some ⟨g, 0, none⟩) N c]); refine (H2.out _ (HBX.out _ (th_below (by assumption)))).mono ?_; rintro e wy ⟨rfl, hb⟩; (first | (have OZ := Lib.hid (OZ.out.below hb)) | skip)) | (go_at_call 17; refine (H1.out _ _ _ OZ.out).mono ?_; rintro e wz ⟨rfl, hb⟩)))
                all_goals
                  go_wp2_with fail
                  go_meet
                  exact ⟨rfl, Lib.hid (th_below (by assumption))⟩
              case rest =>
                obtain ⟨rfl, HBC⟩ := hcut
                generalize wc = wn at *
                have HBW := Lib.hid (HBW.out.trans (HBC.out.mono HBW.out.size))
                clear S0 HBX HBC k0 k1 k2 H1 H2 H3
                go_wp2
                go_roundw
                case rel => exact ⟨j + 1, by omega, by go_num, HBW⟩
                case measure => simp [intOf]; omega
            · obtain rfl : N = j := by omega
              clear hjt
              have hmx : X < N := hXN
              have h1 := fun w' h => HSN.out (M : Int) (X : Int) (some ⟨g, 0, none⟩) c w' h
              rw [shown_nat HOK.out hmx] at h1
              obtain ⟨tm, htm, hsv, htp⟩ := first_some HOK.out hmx
              have h2 := fun w' h => HSW.out (M : Int) (X : Int) (pc l 0) (some ⟨g, 0, none⟩) c w' h
              rw [hsv] at h2
              have h3 := fun w' h => HSW.out (M : Int) (X : Int) (pc l (M + X)) (some ⟨g, 0, none⟩) c w' h
              rw [first_zero HOK.out hmx] at h3
              have h4 := fun w' h => HSW.out (M : Int) (X : Int) 99 (some ⟨g, 0, none⟩) c w' h
              rw [never_99 HOK.out hmx HSM.out] at h4
              have h5 := fun w' h => HTU.out (M : Int) (tm : Int) g c w' h
              rw [turn_nat HOK.out (show tm ≤ 1000 by omega)] at h5
              have h6 := fun g' c' w' h => HSN.out (((M + tm) % N : Nat) : Int) (X : Int) (some ⟨g', 0, none⟩) c' w' h
              rw [shown_turned HOK.out hmx, htp] at h6
              obtain ⟨Tm, hTm⟩ : ∃ Tm, (M + tm) % N = Tm := ⟨_, rfl⟩
              rw [hTm] at h5 h6
              obtain ⟨nb, hnb⟩ : ∃ nb, -b = nb := ⟨_, rfl⟩
              have enb : IntKind.i64.wrap (-b) = nb := by rw [hnb, IntKind.wrap_i64]; omega
              have h7 := fun w' h => HTU.out (T : Int) nb gt ct w' h
              have hbk := HTBK.out
              rw [hnb] at hbk
              rw [hbk] at h7
              have hg0 : 0 < l.length := by rw [HN.out]; omega
              obtain ⟨gx, eg0, hgs, hc0⟩ := HA.out.row 0 hg0
              cases eg0
              rw [← pc_get hg0] at hc0
              obtain ⟨r, gx, hrl, htr, eg, _, hcr⟩ := pc_row HA.out.row hg0 (M + X)
              cases eg
              rw [HN.out] at htr hrl
              obtain ⟨S1, hS1⟩ : ∃ S1, (M : Int) + (X : Int) = S1 := ⟨_, rfl⟩
              have e1 : IntKind.i64.wrap ((M : Int) + (X : Int)) = S1 := by rw [hS1, IntKind.wrap_i64]; omega
              rw [show ((M + X : Nat) : Int) = S1 by omega] at htr
              have er : IntKind.i64.wrap (r : Int) = (r : Int) := by rw [IntKind.wrap_i64]; omega
              obtain ⟨y0, hy0⟩ : ∃ y0, pc l 0 = y0 := ⟨_, rfl⟩
              obtain ⟨vx, hvx⟩ : ∃ vx, pc l (M + X) = vx := ⟨_, rfl⟩
              rw [hy0] at h2 h6 hc0
              rw [hvx] at h1 h3 hcr
              have H1 := Lib.hid h1
              have H2 := Lib.hid h2
              have H3 := Lib.hid h3
              have H4 := Lib.hid h4
              have H5 := Lib.hid h5
              have H6 := Lib.hid h6
              have H7 := Lib.hid h7
              have HT := Lib.hid (HT6.out.below HBW.out)
              have HC0 := Lib.hid (fun (w' : World) (hb : Below wr.heap.size wr w') => (⟨(hb.cell (p := ⟨g, 0, none⟩) (World.block_lt_of_cell? _ _ hc0)).trans hc0, (hb.cell (p := ⟨g, r, none⟩) (World.block_lt_of_cell? _ _ hcr)).trans hcr⟩ : w'.cell? ⟨g, 0, none⟩ = some (.int .i64 y0) ∧ w'.cell? ⟨g, r, none⟩ = some (.int .i64 vx)))
              have HTR := Lib.hid htr
              have HE1 := Lib.hid e1
              have HER := Lib.hid er
              have HENB := Lib.hid enb
              have HBK := Lib.hid (HB6.out.trans (HBW.out.mono HB6.out.size))
              clear h1 h2 h3 h4 h5 h6 h7 hsv htp hTm hnb hbk hg0 hgs hc0 hcr htr hS1 e1 er enb hy0 hvx HE6 HT6 HA6 HB6 HBW HP HSM HTBK HOK HOK2 HSN HSW HTU HTN HBE hq hq1 hb0 hb1
              go_wp2_with fail
              refine (H1.out _ HA.out.row).mono ?_
              rintro e w7 ⟨rfl, hb⟩
              have HA := Lib.hid (HA.out.below hb)
              have HT := Lib.hid (HT.out.below hb)
              have HBW := Lib.hid hb
              clear hb k0 k1 k2 H1
              have S0 : w7.cell? ⟨w0.heap.size, 0, none⟩ = some (.int .i64 (N : Int)) ∧ w7.cell? ⟨w0.heap.size, 1, none⟩ = some (.int .i64 (M : Int)) ∧ w7.cell? ⟨w0.heap.size, 2, none⟩ = some (.slice (some ⟨g, 0, none⟩) N c) ∧ w7.cell? ⟨g, 0, none⟩ = some (.int .i64 y0) ∧ w7.cell? ⟨g, r, none⟩ = some (.int .i64 vx) ∧ w7.cell? ⟨w0.heap.size, 0, none⟩ = some (.int .i64 (N : Int)) ∧ Below w7.heap.size w7 w7 := ⟨HA.out.var.cells.1, HA.out.var.cells.2.1, HA.out.var.cells.2.2, (HC0.out _ HBW.out).1, (HC0.out _ HBW.out).2, HA.out.var.cells.1, Below.refl _ _⟩
              have HBX := Lib.hid (fun (w' : World) (hb : Below w7.heap.size w7 w') => (HA.out.below hb).row)
              have u0 : (0 : Int) < (N : Int) := by omega
              have u1 : 0 < N := by omega
              go_upto_region 27 with (fail)
              go_cut [15] (fun s wx => s = .int .i64 (tm : Int) ∧ Hid (Below w7.heap.size w7 wx))
              case first =>
                go_region_held3 (fun w' => w'.cell? ⟨w0.heap.size, 0, none⟩ = some (.int .i64 (N : Int)) ∧ w'.cell? ⟨w0.heap.size, 1, none⟩ = some (.int .i64 (M : Int)) ∧ w'.cell? ⟨w0.heap.size, 2, none⟩ = some (.slice (some ⟨g, 0, none⟩) N c) ∧ w'.cell? ⟨g, 0, none⟩ = some (.int .i64 y0) ∧ w'.cell? ⟨g, r, none⟩ = some (.int .i64 vx) ∧ w'.cell? ⟨w0.heap.size, 0, none⟩ = some (.int .i64 (N : Int)) ∧ Below w7.heap.size w7 w')
                  (first | with_reducible exact S0 | with_reducible exact eqs_drew S0 | with_reducible exact eqs_next (by assumption) hb | with_reducible exact eqs_drew (by assumption) | with_reducible assumption)
                  ((first | (go_at_call 18; refine (H2.out _ (HBX.out _ (eqs_below (by assumption)))).mono ?_; rintro e wz ⟨rfl, hb⟩)))
                all_goals
                  go_wp2_with fail
                  go_meet
                  exact ⟨rfl, Lib.hid (eqs_below (by assumption))⟩
              case rest =>
                obtain ⟨rfl, HBC⟩ := hcut
                generalize wc = w8 at *
                have HA := Lib.hid (HA.out.below HBC.out)
                have HT := Lib.hid (HT.out.below HBC.out)
                have HBW := Lib.hid (HBW.out.trans (HBC.out.mono HBW.out.size))
                clear S0 HBX HBC H2 u0 u1
                obtain ⟨t0, t1, t2⟩ := HT.out.var.cells
                have enb := HENB.out
                go_wp2_with fail
                refine (H7.out _ HT.out.row).mono ?_
                rintro e w9 ⟨gb, cb, rfl, hb, _⟩
                have HA := Lib.hid (HA.out.below hb)
                have HBW := Lib.hid (HBW.out.trans (hb.mono HBW.out.size))
                clear hb t0 t1 t2 enb HENB H7 HT
                have hv := DVar.new w9 (N : Int) (M : Int) (.slice (some ⟨gb, 0, none⟩) N cb)
                have hb := alloc_below w9 (.cells #[.int .i64 (N : Int), .int .i64 (M : Int), .slice (some ⟨gb, 0, none⟩) N cb] 26)
                have HA := Lib.hid (HA.out.below hb)
                have HBW := Lib.hid (HBW.out.trans (hb.mono HBW.out.size))
                have HV := Lib.hid hv
                clear hb hv
                go_upto_region 29 with (fail)
                generalize (w9.alloc (.cells #[.int .i64 (N : Int), .int .i64 (M : Int), .slice (some ⟨gb, 0, none⟩) N cb] 26)) = w10 at *
                obtain ⟨bb, hbb⟩ : ∃ bb, w9.heap.size = bb := ⟨_, rfl⟩
                rw [hbb] at HV ⊢
                clear hbb
                have S0 : w10.cell? ⟨w0.heap.size, 0, none⟩ = some (.int .i64 (N : Int)) ∧ w10.cell? ⟨w0.heap.size, 1, none⟩ = some (.int .i64 (M : Int)) ∧ w10.cell? ⟨w0.heap.size, 2, none⟩ = some (.slice (some ⟨g, 0, none⟩) N c) ∧ w10.cell? ⟨g, 0, none⟩ = some (.int .i64 y0) ∧ w10.cell? ⟨g, r, none⟩ = some (.int .i64 vx) ∧ w10.cell? ⟨bb, 1, none⟩ = some (.int .i64 (M : Int)) ∧ Below w10.heap.size w10 w10 := ⟨HA.out.var.cells.1, HA.out.var.cells.2.1, HA.out.var.cells.2.2, (HC0.out _ HBW.out).1, (HC0.out _ HBW.out).2, HV.out.cells.2.1, Below.refl _ _⟩
                have htr := HTR.out
                have e1 := HE1.out
                have er := HER.out
                have hvv : (vx == vx) = true := by simp
                have hyy : (y0 == y0) = true := by simp
                have hMM : ((M : Int) == (M : Int)) = true := by simp
                have ht0 : (0 : Int) ≤ (tm : Int) := Int.natCast_nonneg _
                have ht1 : decide ((tm : Int) < (N : Int)) = true := decide_eq_true (by omega)
                have ht2 : decide ((0 : Int) ≤ (tm : Int)) = true := decide_eq_true ht0
                have ht3 : (tm : Int) < (N : Int) := by omega
                have hr0 : (0 : Int) ≤ (r : Int) := Int.natCast_nonneg _
                have hr1 : (r : Int) < (N : Int) := by omega
                have hN0 : (0 : Int) < (N : Int) := by omega
                have hN1 : 0 < N := by omega
                clear HTR HE1 HER HC0 HV
                refine wp_region_held_drew (S := fun w' => w'.cell? ⟨w0.heap.size, 0, none⟩ = some (.int .i64 (N : Int)) ∧ w'.cell? ⟨w0.heap.size, 1, none⟩ = some (.int .i64 (M : Int)) ∧ w'.cell? ⟨w0.heap.size, 2, none⟩ = some (.slice (some ⟨g, 0, none⟩) N c) ∧ w'.cell? ⟨g, 0, none⟩ = some (.int .i64 y0) ∧ w'.cell? ⟨g, r, none⟩ = some (.int .i64 vx) ∧ w'.cell? ⟨bb, 1, none⟩ = some (.int .i64 (M : Int)) ∧ Below w10.heap.size w10 w') (by kernel_rfl) (eqs_drew S0) (fun hHeld => ?_)
                clear S0
                refine wpAnyH_take (i := 0) (v := ?_) rfl (by kernel_rfl) (by kernel_rfl) (by kernel_rfl) (fun _ _ _ h => h) (Or.inl ⟨by rfl, ?_⟩) (by assumption) ?_
                rotate_left
                · intro w hSw
                  (try dsimp only at hSw)
                  go_simp
                  all_goals (with_reducible rfl)
                try simp only [Act.put, List.setIfInBounds_toArray, List.set_cons_zero, List.set_cons_succ, List.getElem_toArray, List.getElem_cons_zero]
                refine wpAnyH_take (i := 1) (v := ?_) rfl (by kernel_rfl) (by kernel_rfl) (by kernel_rfl) (fun _ _ _ h => h) (Or.inl ⟨by rfl, ?_⟩) (by assumption) ?_
                rotate_left
                · intro w hSw
                  (try dsimp only at hSw)
                  go_simp
                  all_goals (with_reducible rfl)
                try simp only [Act.put, List.setIfInBounds_toArray, List.set_cons_zero, List.set_cons_succ, List.getElem_toArray, List.getElem_cons_succ, List.getElem_cons_zero]
                refine wpAnyH_take (i := 2) (v := ?_) rfl (by kernel_rfl) (by kernel_rfl) (by kernel_rfl) (fun _ _ _ h => h) (Or.inl ⟨by rfl, ?_⟩) (by assumption) ?_
                rotate_left
                · intro w hSw
                  (try dsimp only at hSw)
                  go_simp
                  all_goals (with_reducible rfl)
                try simp only [Act.put, List.setIfInBounds_toArray, List.set_cons_zero, List.set_cons_succ, List.getElem_toArray, List.getElem_cons_succ, List.getElem_cons_zero]
                refine wpAnyH_take (i := 3) (v := ?_) rfl (by kernel_rfl) (by kernel_rfl) (by kernel_rfl) (fun _ _ _ h => h) (Or.inl ⟨by rfl, ?_⟩) (by assumption) ?_
                rotate_left
                · intro w hSw
                  (try dsimp only at hSw)
                  go_simp
                  all_goals (with_reducible rfl)
                try simp only [Act.put, List.setIfInBounds_toArray, List.set_cons_zero, List.set_cons_succ, List.getElem_toArray, List.getElem_cons_succ, List.getElem_cons_zero]
                refine wpAnyH_take (i := 4) (v := ?_) rfl (by kernel_rfl) (by kernel_rfl) (by kernel_rfl) (fun _ _ _ h => h) (Or.inl ⟨by rfl, ?_⟩) (by assumption) ?_
                rotate_left
                · intro w hSw
                  (try dsimp only at hSw)
                  go_simp
                  all_goals (with_reducible rfl)
                try simp only [Act.put, List.setIfInBounds_toArray, List.set_cons_zero, List.set_cons_succ, List.getElem_toArray, List.getElem_cons_succ, List.getElem_cons_zero]
                refine wpAnyH_take (i := 5) (v := ?_) rfl (by kernel_rfl) (by kernel_rfl) (by kernel_rfl) (fun _ _ _ h => h) (Or.inl ⟨by rfl, ?_⟩) (by assumption) ?_
                rotate_left
                · intro w hSw
                  (try dsimp only at hSw)
                  go_simp
                  all_goals (with_reducible rfl)
                try simp only [Act.put, List.setIfInBounds_toArray, List.set_cons_zero, List.set_cons_succ, List.getElem_toArray, List.getElem_cons_succ, List.getElem_cons_zero]
                refine wpAnyH_take (i := 6) (v := ?_) rfl (by kernel_rfl) (by kernel_rfl) (by kernel_rfl) (fun _ _ _ h => h) (Or.inl ⟨by rfl, ?_⟩) (by assumption) ?_
                rotate_left
                · intro w hSw
                  (try dsimp only at hSw)
                  go_simp
                  all_goals (with_reducible rfl)
                try simp only [Act.put, List.setIfInBounds_toArray, List.set_cons_zero, List.set_cons_succ, List.getElem_toArray, List.getElem_cons_succ, List.getElem_cons_zero]
                refine wpAnyH_take (i := 7) (v := ?_) rfl (by kernel_rfl) (by kernel_rfl) (by kernel_rfl) (fun _ _ _ h => h) (Or.inl ⟨by rfl, ?_⟩) (by assumption) ?_
                rotate_left
                · intro w hSw
                  (try dsimp only at hSw)
                  go_simp
                  all_goals (with_reducible rfl)
                try simp only [Act.put, List.setIfInBounds_toArray, List.set_cons_zero, List.set_cons_succ, List.getElem_toArray, List.getElem_cons_succ, List.getElem_cons_zero]
                refine wpAnyH_take (i := 8) (v := ?_) rfl (by kernel_rfl) (by kernel_rfl) (by kernel_rfl) (fun _ _ _ h => h) (Or.inl ⟨by rfl, ?_⟩) (by assumption) ?_
                rotate_left
                · intro w hSw
                  (try dsimp only at hSw)
                  go_simp
                  all_goals (with_reducible rfl)
                try simp only [Act.put, List.setIfInBounds_toArray, List.set_cons_zero, List.set_cons_succ, List.getElem_toArray, List.getElem_cons_succ, List.getElem_cons_zero]
                refine wpAnyH_take (i := 9) (v := ?_) rfl (by kernel_rfl) (by kernel_rfl) (by kernel_rfl) (fun _ _ _ h => h) (Or.inl ⟨by rfl, ?_⟩) (by assumption) ?_
                rotate_left
                · intro w hSw
                  (try dsimp only at hSw)
                  go_simp
                  all_goals (with_reducible rfl)
                try simp only [Act.put, List.setIfInBounds_toArray, List.set_cons_zero, List.set_cons_succ, List.getElem_toArray, List.getElem_cons_succ, List.getElem_cons_zero]
                refine wpAnyH_take (i := 10) (v := ?_) rfl (by kernel_rfl) (by kernel_rfl) (by kernel_rfl) (fun _ _ _ h => h) (Or.inl ⟨by rfl, ?_⟩) (by assumption) ?_
                rotate_left
                · intro w hSw
                  (try dsimp only at hSw)
                  go_simp
                  all_goals (with_reducible rfl)
                try simp only [Act.put, List.setIfInBounds_toArray, List.set_cons_zero, List.set_cons_succ, List.getElem_toArray, List.getElem_cons_succ, List.getElem_cons_zero]
                refine wpAnyH_take (i := 11) (v := ?_) rfl (by kernel_rfl) (by kernel_rfl) (by kernel_rfl) (fun _ _ _ h => h) (Or.inl ⟨by rfl, ?_⟩) (by assumption) ?_
                rotate_left
                · intro w hSw
                  (try dsimp only at hSw)
                  go_simp
                  all_goals (with_reducible rfl)
                try simp only [Act.put, List.setIfInBounds_toArray, List.set_cons_zero, List.set_cons_succ, List.getElem_toArray, List.getElem_cons_succ, List.getElem_cons_zero]
                refine wpAnyH_take (i := 12) (v := ?_) rfl (by kernel_rfl) (by kernel_rfl) (by kernel_rfl) (fun _ _ _ h => h) (Or.inl ⟨by rfl, ?_⟩) (by assumption) ?_
                rotate_left
                · intro w hSw
                  (try dsimp only at hSw)
                  go_simp
                  all_goals (with_reducible rfl)
                try simp only [Act.put, List.setIfInBounds_toArray, List.set_cons_zero, List.set_cons_succ, List.getElem_toArray, List.getElem_cons_succ, List.getElem_cons_zero]
                refine wpAnyH_take (i := 13) (v := ?_) rfl (by kernel_rfl) (by kernel_rfl) (by kernel_rfl) (fun _ _ _ h => h) (Or.inl ⟨by rfl, ?_⟩) (by assumption) ?_
                rotate_left
                · intro w hSw
                  (try dsimp only at hSw)
                  go_simp
                  all_goals (with_reducible rfl)
                try simp only [Act.put, List.setIfInBounds_toArray, List.set_cons_zero, List.set_cons_succ, List.getElem_toArray, List.getElem_cons_succ, List.getElem_cons_zero]
                refine wpAnyH_take (i := 14) (v := ?_) rfl (by kernel_rfl) (by kernel_rfl) (by kernel_rfl) (fun _ _ _ h => h) (Or.inl ⟨by rfl, ?_⟩) (by assumption) ?_
                rotate_left
                · intro w hSw
                  (try dsimp only at hSw)
                  go_simp
                  all_goals (with_reducible rfl)
                try simp only [Act.put, List.setIfInBounds_toArray, List.set_cons_zero, List.set_cons_succ, List.getElem_toArray, List.getElem_cons_succ, List.getElem_cons_zero]
                refine wpAnyH_take (i := 15) (v := ?_) rfl (by kernel_rfl) (by kernel_rfl) (by kernel_rfl) (fun _ _ _ h => h) (Or.inl ⟨by rfl, ?_⟩) (by assumption) ?_
                rotate_left
                · intro w hSw
                  (try dsimp only at hSw)
                  go_simp
                  all_goals (with_reducible rfl)
                try simp only [Act.put, List.setIfInBounds_toArray, List.set_cons_zero, List.set_cons_succ, List.getElem_toArray, List.getElem_cons_succ, List.getElem_cons_zero]
                refine wpAnyH_take (i := 16) (v := ?_) rfl (by kernel_rfl) (by kernel_rfl) (by kernel_rfl) (fun _ _ _ h => h) (Or.inl ⟨by rfl, ?_⟩) (by assumption) ?_
                rotate_left
                · intro w hSw
                  (try dsimp only at hSw)
                  go_simp
                  all_goals (with_reducible rfl)
                try simp only [Act.put, List.setIfInBounds_toArray, List.set_cons_zero, List.set_cons_succ, List.getElem_toArray, List.getElem_cons_succ, List.getElem_cons_zero]
                refine wpAnyH_take (i := 17) (v := ?_) rfl (by kernel_rfl) (by kernel_rfl) (by kernel_rfl) (fun _ _ _ h => h) (Or.inl ⟨by rfl, ?_⟩) (by assumption) ?_
                rotate_left
                · intro w hSw
                  (try dsimp only at hSw)
                  go_simp
                  all_goals (with_reducible rfl)
                try simp only [Act.put, List.setIfInBounds_toArray, List.set_cons_zero, List.set_cons_succ, List.getElem_toArray, List.getElem_cons_succ, List.getElem_cons_zero]
                refine wpAnyH_take (i := 18) (v := ?_) rfl (by kernel_rfl) (by kernel_rfl) (by kernel_rfl) (fun _ _ _ h => h) (Or.inl ⟨by rfl, ?_⟩) (by assumption) ?_
                rotate_left
                · intro w hSw
                  (try dsimp only at hSw)
                  go_simp
                  all_goals (with_reducible rfl)
                try simp only [Act.put, List.setIfInBounds_toArray, List.set_cons_zero, List.set_cons_succ, List.getElem_toArray, List.getElem_cons_succ, List.getElem_cons_zero]
                refine wpAnyH_take (i := 19) (v := ?_) rfl (by kernel_rfl) (by kernel_rfl) (by kernel_rfl) (fun _ _ _ h => h) (Or.inl ⟨by rfl, ?_⟩) (by assumption) ?_
                rotate_left
                · intro w hSw
                  (try dsimp only at hSw)
                  go_simp
                  all_goals (with_reducible rfl)
                try simp only [Act.put, List.setIfInBounds_toArray, List.set_cons_zero, List.set_cons_succ, List.getElem_toArray, List.getElem_cons_succ, List.getElem_cons_zero]
                refine wpAnyH_take (i := 20) (v := ?_) rfl (by kernel_rfl) (by kernel_rfl) (by kernel_rfl) (fun _ _ _ h => h) (Or.inl ⟨by rfl, ?_⟩) (by assumption) ?_
                rotate_left
                · intro w hSw
                  (try dsimp only at hSw)
                  go_simp
                  all_goals (with_reducible rfl)
                try simp only [Act.put, List.setIfInBounds_toArray, List.set_cons_zero, List.set_cons_succ, List.getElem_toArray, List.getElem_cons_succ, List.getElem_cons_zero]
                refine wpAnyH_take (i := 21) (v := ?_) rfl (by kernel_rfl) (by kernel_rfl) (by kernel_rfl) (fun _ _ _ h => h) (Or.inl ⟨by rfl, ?_⟩) (by assumption) ?_
                rotate_left
                · intro w hSw
                  (try dsimp only at hSw)
                  go_simp
                  all_goals (with_reducible rfl)
                try simp only [Act.put, List.setIfInBounds_toArray, List.set_cons_zero, List.set_cons_succ, List.getElem_toArray, List.getElem_cons_succ, List.getElem_cons_zero]
                refine wpAnyH_take (i := 22) (v := ?_) rfl (by kernel_rfl) (by kernel_rfl) (by kernel_rfl) (fun _ _ _ h => h) (Or.inl ⟨by rfl, ?_⟩) (by assumption) ?_
                rotate_left
                · intro w hSw
                  (try dsimp only at hSw)
                  go_simp
                  all_goals (with_reducible rfl)
                try simp only [Act.put, List.setIfInBounds_toArray, List.set_cons_zero, List.set_cons_succ, List.getElem_toArray, List.getElem_cons_succ, List.getElem_cons_zero]
                refine wpAnyH_take (i := 23) (v := ?_) rfl (by kernel_rfl) (by kernel_rfl) (by kernel_rfl) (fun _ _ _ h => h) (Or.inl ⟨by rfl, ?_⟩) (by assumption) ?_
                rotate_left
                · intro w hSw
                  (try dsimp only at hSw)
                  go_simp
                  all_goals (with_reducible rfl)
                try simp only [Act.put, List.setIfInBounds_toArray, List.set_cons_zero, List.set_cons_succ, List.getElem_toArray, List.getElem_cons_succ, List.getElem_cons_zero]
                refine wpAnyH_take (i := 24) (v := ?_) rfl (by kernel_rfl) (by kernel_rfl) (by kernel_rfl) (fun _ _ _ h => h) (Or.inl ⟨by rfl, ?_⟩) (by assumption) ?_
                rotate_left
                · intro w hSw
                  (try dsimp only at hSw)
                  go_simp
                  all_goals (with_reducible rfl)
                try simp only [Act.put, List.setIfInBounds_toArray, List.set_cons_zero, List.set_cons_succ, List.getElem_toArray, List.getElem_cons_succ, List.getElem_cons_zero]
                refine wpAnyH_take (i := 25) (v := ?_) rfl (by kernel_rfl) (by kernel_rfl) (by kernel_rfl) (fun _ _ _ h => h) (Or.inl ⟨by rfl, ?_⟩) (by assumption) ?_
                rotate_left
                · intro w hSw
                  (try dsimp only at hSw)
                  go_simp
                  all_goals (with_reducible rfl)
                try simp only [Act.put, List.setIfInBounds_toArray, List.set_cons_zero, List.set_cons_succ, List.getElem_toArray, List.getElem_cons_succ, List.getElem_cons_zero]
                refine wpAnyH_take (i := 27) (v := ?_) rfl (by kernel_rfl) (by kernel_rfl) (by kernel_rfl) (fun _ _ _ h => h) (Or.inl ⟨by rfl, ?_⟩) (by assumption) ?_
                rotate_left
                · intro w hSw
                  (try dsimp only at hSw)
                  go_simp
                  all_goals (with_reducible rfl)
                try simp only [Act.put, List.setIfInBounds_toArray, List.set_cons_zero, List.set_cons_succ, List.getElem_toArray, List.getElem_cons_succ, List.getElem_cons_zero]
                refine wpAnyH_take (i := 29) (v := ?_) rfl (by kernel_rfl) (by kernel_rfl) (by kernel_rfl) (fun _ _ _ h => h) (Or.inl ⟨by rfl, ?_⟩) (by assumption) ?_
                rotate_left
                · intro w hSw
                  (try dsimp only at hSw)
                  go_simp
                  all_goals (with_reducible rfl)
                try simp only [Act.put, List.setIfInBounds_toArray, List.set_cons_zero, List.set_cons_succ, List.getElem_toArray, List.getElem_cons_succ, List.getElem_cons_zero]
                refine wpAnyH_take (i := 30) (v := ?_) rfl (by kernel_rfl) (by kernel_rfl) (by kernel_rfl) (fun _ _ _ h => h) (Or.inl ⟨by rfl, ?_⟩) (by assumption) ?_
                rotate_left
                · intro w hSw
                  (try dsimp only at hSw)
                  go_simp
                  all_goals (with_reducible rfl)
                try simp only [Act.put, List.setIfInBounds_toArray, List.set_cons_zero, List.set_cons_succ, List.getElem_toArray, List.getElem_cons_succ, List.getElem_cons_zero]
                refine wpAnyH_take (i := 31) (v := ?_) rfl (by kernel_rfl) (by kernel_rfl) (by kernel_rfl) (fun _ _ _ h => h) (Or.inl ⟨by rfl, ?_⟩) (by assumption) ?_
                rotate_left
                · intro w hSw
                  (try dsimp only at hSw)
                  go_simp
                  all_goals (with_reducible rfl)
                try simp only [Act.put, List.setIfInBounds_toArray, List.set_cons_zero, List.set_cons_succ, List.getElem_toArray, List.getElem_cons_succ, List.getElem_cons_zero]
                refine wpAnyH_take (i := 32) (v := ?_) rfl (by kernel_rfl) (by kernel_rfl) (by kernel_rfl) (fun _ _ _ h => h) (Or.inl ⟨by rfl, ?_⟩) (by assumption) ?_
                rotate_left
                · intro w hSw
                  (try dsimp only at hSw)
                  go_simp
                  all_goals (with_reducible rfl)
                try simp only [Act.put, List.setIfInBounds_toArray, List.set_cons_zero, List.set_cons_succ, List.getElem_toArray, List.getElem_cons_succ, List.getElem_cons_zero]
                refine wpAnyH_ready (rs := [26]) (by kernel_rfl) (by simp) ?_
                refine AllReadyH.cons rfl (fun K hK => ?_) AllReadyH.nil
                try simp only [Act.put, List.setIfInBounds_toArray, List.set_cons_zero, List.set_cons_succ, List.getElem_toArray, List.getElem_cons_succ, List.getElem_cons_zero]
                go_simp
                go_at_call 14
                refine (H5.out _ (HA.out.below (eqs_below hHeld)).row).mono ?_
                rintro e w126 ⟨gz, cz, rfl, hb, ho⟩
                have OZ := Lib.hid (Own.row2 ho)
                clear ho
                have hS2 := eqs_next hHeld hb
                refine hK.out _ _ hS2 (fun hHeld => ?_)
                clear hK K hb hS2
                try simp only [Act.put, List.setIfInBounds_toArray, List.set_cons_zero, List.set_cons_succ, List.getElem_toArray, List.getElem_cons_succ, List.getElem_cons_zero]
                refine wpAnyH_ready (rs := [28]) (by kernel_rfl) (by simp) ?_
                refine AllReadyH.cons rfl (fun K hK => ?_) AllReadyH.nil
                try simp only [Act.put, List.setIfInBounds_toArray, List.set_cons_zero, List.set_cons_succ, List.getElem_toArray, List.getElem_cons_succ, List.getElem_cons_zero]
                go_simp
                go_at_call 17
                refine (H6.out _ _ _ OZ.out).mono ?_
                rintro e w128 ⟨rfl, hb⟩
                have hS2 := eqs_next hHeld hb
                refine hK.out _ _ hS2 (fun hHeld => ?_)
                clear hK K hb hS2
                try simp only [Act.put, List.setIfInBounds_toArray, List.set_cons_zero, List.set_cons_succ, List.getElem_toArray, List.getElem_cons_succ, List.getElem_cons_zero]
                refine wpAnyH_take (i := 33) (v := ?_) rfl (by kernel_rfl) (by kernel_rfl) (by kernel_rfl) (fun _ _ _ h => h) (Or.inl ⟨by rfl, ?_⟩) (by assumption) ?_
                rotate_left
                · intro w hSw
                  (try dsimp only at hSw)
                  go_simp
                  all_goals (with_reducible rfl)
                try simp only [Act.put, List.setIfInBounds_toArray, List.set_cons_zero, List.set_cons_succ, List.getElem_toArray, List.getElem_cons_succ, List.getElem_cons_zero]
                refine wpAnyH_take (i := 34) (v := ?_) rfl (by kernel_rfl) (by kernel_rfl) (by kernel_rfl) (fun _ _ _ h => h) (Or.inl ⟨by rfl, ?_⟩) (by assumption) ?_
                rotate_left
                · intro w hSw
                  (try dsimp only at hSw)
                  go_simp
                  all_goals (with_reducible rfl)
                try simp only [Act.put, List.setIfInBounds_toArray, List.set_cons_zero, List.set_cons_succ, List.getElem_toArray, List.getElem_cons_succ, List.getElem_cons_zero]
                refine wpAnyH_take (i := 35) (v := ?_) rfl (by kernel_rfl) (by kernel_rfl) (by kernel_rfl) (fun _ _ _ h => h) (Or.inl ⟨by rfl, ?_⟩) (by assumption) ?_
                rotate_left
                · intro w hSw
                  (try dsimp only at hSw)
                  go_simp
                  all_goals (with_reducible rfl)
                try simp only [Act.put, List.setIfInBounds_toArray, List.set_cons_zero, List.set_cons_succ, List.getElem_toArray, List.getElem_cons_succ, List.getElem_cons_zero]
                refine wpAnyH_take (i := 36) (v := ?_) rfl (by kernel_rfl) (by kernel_rfl) (by kernel_rfl) (fun _ _ _ h => h) (Or.inl ⟨by rfl, ?_⟩) (by assumption) ?_
                rotate_left
                · intro w hSw
                  (try dsimp only at hSw)
                  go_simp
                  all_goals (with_reducible rfl)
                try simp only [Act.put, List.setIfInBounds_toArray, List.set_cons_zero, List.set_cons_succ, List.getElem_toArray, List.getElem_cons_succ, List.getElem_cons_zero]
                refine wpAnyH_take (i := 37) (v := ?_) rfl (by kernel_rfl) (by kernel_rfl) (by kernel_rfl) (fun _ _ _ h => h) (Or.inl ⟨by rfl, ?_⟩) (by assumption) ?_
                rotate_left
                · intro w hSw
                  (try dsimp only at hSw)
                  go_simp
                  all_goals (with_reducible rfl)
                try simp only [Act.put, List.setIfInBounds_toArray, List.set_cons_zero, List.set_cons_succ, List.getElem_toArray, List.getElem_cons_succ, List.getElem_cons_zero]
                refine wpAnyH_take (i := 38) (v := ?_) rfl (by kernel_rfl) (by kernel_rfl) (by kernel_rfl) (fun _ _ _ h => h) (Or.inl ⟨by rfl, ?_⟩) (by assumption) ?_
                rotate_left
                · intro w hSw
                  (try dsimp only at hSw)
                  go_simp
                  all_goals (with_reducible rfl)
                try simp only [Act.put, List.setIfInBounds_toArray, List.set_cons_zero, List.set_cons_succ, List.getElem_toArray, List.getElem_cons_succ, List.getElem_cons_zero]
                refine wpAnyH_take (i := 39) (v := ?_) rfl (by kernel_rfl) (by kernel_rfl) (by kernel_rfl) (fun _ _ _ h => h) (Or.inl ⟨by rfl, ?_⟩) (by assumption) ?_
                rotate_left
                · intro w hSw
                  (try dsimp only at hSw)
                  go_simp
                  all_goals (with_reducible rfl)
                try simp only [Act.put, List.setIfInBounds_toArray, List.set_cons_zero, List.set_cons_succ, List.getElem_toArray, List.getElem_cons_succ, List.getElem_cons_zero]
                refine wpAnyH_take (i := 40) (v := ?_) rfl (by kernel_rfl) (by kernel_rfl) (by kernel_rfl) (fun _ _ _ h => h) (Or.inl ⟨by rfl, ?_⟩) (by assumption) ?_
                rotate_left
                · intro w hSw
                  (try dsimp only at hSw)
                  go_simp
                  all_goals (with_reducible rfl)
                try simp only [Act.put, List.setIfInBounds_toArray, List.set_cons_zero, List.set_cons_succ, List.getElem_toArray, List.getElem_cons_succ, List.getElem_cons_zero]
                refine wpAnyH_take (i := 41) (v := ?_) rfl (by kernel_rfl) (by kernel_rfl) (by kernel_rfl) (fun _ _ _ h => h) (Or.inl ⟨by rfl, ?_⟩) (by assumption) ?_
                rotate_left
                · intro w hSw
                  (try dsimp only at hSw)
                  go_simp
                  all_goals (with_reducible rfl)
                try simp only [Act.put, List.setIfInBounds_toArray, List.set_cons_zero, List.set_cons_succ, List.getElem_toArray, List.getElem_cons_succ, List.getElem_cons_zero]
                refine wpAnyH_take (i := 42) (v := ?_) rfl (by kernel_rfl) (by kernel_rfl) (by kernel_rfl) (fun _ _ _ h => h) (Or.inl ⟨by rfl, ?_⟩) (by assumption) ?_
                rotate_left
                · intro w hSw
                  (try dsimp only at hSw)
                  go_simp
                  all_goals (with_reducible rfl)
                try simp only [Act.put, List.setIfInBounds_toArray, List.set_cons_zero, List.set_cons_succ, List.getElem_toArray, List.getElem_cons_succ, List.getElem_cons_zero]
                refine wpAnyH_take (i := 43) (v := ?_) rfl (by kernel_rfl) (by kernel_rfl) (by kernel_rfl) (fun _ _ _ h => h) (Or.inl ⟨by rfl, ?_⟩) (by assumption) ?_
                rotate_left
                · intro w hSw
                  (try dsimp only at hSw)
                  go_simp
                  all_goals (with_reducible rfl)
                try simp only [Act.put, List.setIfInBounds_toArray, List.set_cons_zero, List.set_cons_succ, List.getElem_toArray, List.getElem_cons_succ, List.getElem_cons_zero]
                refine wpAnyH_take (i := 44) (v := ?_) rfl (by kernel_rfl) (by kernel_rfl) (by kernel_rfl) (fun _ _ _ h => h) (Or.inl ⟨by rfl, ?_⟩) (by assumption) ?_
                rotate_left
                · intro w hSw
                  (try dsimp only at hSw)
                  go_simp
                  all_goals (with_reducible rfl)
                try simp only [Act.put, List.setIfInBounds_toArray, List.set_cons_zero, List.set_cons_succ, List.getElem_toArray, List.getElem_cons_succ, List.getElem_cons_zero]
                refine wpAnyH_take (i := 45) (v := ?_) rfl (by kernel_rfl) (by kernel_rfl) (by kernel_rfl) (fun _ _ _ h => h) (Or.inl ⟨by rfl, ?_⟩) (by assumption) ?_
                rotate_left
                · intro w hSw
                  (try dsimp only at hSw)
                  go_simp
                  all_goals (with_reducible rfl)
                try simp only [Act.put, List.setIfInBounds_toArray, List.set_cons_zero, List.set_cons_succ, List.getElem_toArray, List.getElem_cons_succ, List.getElem_cons_zero]
                refine wpAnyH_ready (rs := [46]) (by kernel_rfl) (by simp) ?_
                refine AllReadyH.cons rfl (fun K hK => ?_) AllReadyH.nil
                try simp only [Act.put, List.setIfInBounds_toArray, List.set_cons_zero, List.set_cons_succ, List.getElem_toArray, List.getElem_cons_succ, List.getElem_cons_zero]
                go_simp
                go_at_call 18
                refine (H3.out _ (HA.out.below (eqs_below hHeld)).row).mono ?_
                rintro e w146 ⟨rfl, hb⟩
                have hS2 := eqs_next hHeld hb
                refine hK.out _ _ hS2 (fun hHeld => ?_)
                clear hK K hb hS2
                try simp only [Act.put, List.setIfInBounds_toArray, List.set_cons_zero, List.set_cons_succ, List.getElem_toArray, List.getElem_cons_succ, List.getElem_cons_zero]
                refine wpAnyH_take (i := 47) (v := ?_) rfl (by kernel_rfl) (by kernel_rfl) (by kernel_rfl) (fun _ _ _ h => h) (Or.inl ⟨by rfl, ?_⟩) (by assumption) ?_
                rotate_left
                · intro w hSw
                  (try dsimp only at hSw)
                  go_simp
                  all_goals (with_reducible rfl)
                try simp only [Act.put, List.setIfInBounds_toArray, List.set_cons_zero, List.set_cons_succ, List.getElem_toArray, List.getElem_cons_succ, List.getElem_cons_zero]
                refine wpAnyH_take (i := 48) (v := ?_) rfl (by kernel_rfl) (by kernel_rfl) (by kernel_rfl) (fun _ _ _ h => h) (Or.inl ⟨by rfl, ?_⟩) (by assumption) ?_
                rotate_left
                · intro w hSw
                  (try dsimp only at hSw)
                  go_simp
                  all_goals (with_reducible rfl)
                try simp only [Act.put, List.setIfInBounds_toArray, List.set_cons_zero, List.set_cons_succ, List.getElem_toArray, List.getElem_cons_succ, List.getElem_cons_zero]
                refine wpAnyH_take (i := 49) (v := ?_) rfl (by kernel_rfl) (by kernel_rfl) (by kernel_rfl) (fun _ _ _ h => h) (Or.inl ⟨by rfl, ?_⟩) (by assumption) ?_
                rotate_left
                · intro w hSw
                  (try dsimp only at hSw)
                  go_simp
                  all_goals (with_reducible rfl)
                try simp only [Act.put, List.setIfInBounds_toArray, List.set_cons_zero, List.set_cons_succ, List.getElem_toArray, List.getElem_cons_succ, List.getElem_cons_zero]
                refine wpAnyH_take (i := 50) (v := ?_) rfl (by kernel_rfl) (by kernel_rfl) (by kernel_rfl) (fun _ _ _ h => h) (Or.inl ⟨by rfl, ?_⟩) (by assumption) ?_
                rotate_left
                · intro w hSw
                  (try dsimp only at hSw)
                  go_simp
                  all_goals (with_reducible rfl)
                try simp only [Act.put, List.setIfInBounds_toArray, List.set_cons_zero, List.set_cons_succ, List.getElem_toArray, List.getElem_cons_succ, List.getElem_cons_zero]
                refine wpAnyH_take (i := 51) (v := ?_) rfl (by kernel_rfl) (by kernel_rfl) (by kernel_rfl) (fun _ _ _ h => h) (Or.inl ⟨by rfl, ?_⟩) (by assumption) ?_
                rotate_left
                · intro w hSw
                  (try dsimp only at hSw)
                  go_simp
                  all_goals (with_reducible rfl)
                try simp only [Act.put, List.setIfInBounds_toArray, List.set_cons_zero, List.set_cons_succ, List.getElem_toArray, List.getElem_cons_succ, List.getElem_cons_zero]
                refine wpAnyH_ready (rs := [52]) (by kernel_rfl) (by simp) ?_
                refine AllReadyH.cons rfl (fun K hK => ?_) AllReadyH.nil
                try simp only [Act.put, List.setIfInBounds_toArray, List.set_cons_zero, List.set_cons_succ, List.getElem_toArray, List.getElem_cons_succ, List.getElem_cons_zero]
                go_simp
                go_at_call 18
                refine (H4.out _ (HA.out.below (eqs_below hHeld)).row).mono ?_
                rintro e w152 ⟨rfl, hb⟩
                have hS2 := eqs_next hHeld hb
                refine hK.out _ _ hS2 (fun hHeld => ?_)
                clear hK K hb hS2
                try simp only [Act.put, List.setIfInBounds_toArray, List.set_cons_zero, List.set_cons_succ, List.getElem_toArray, List.getElem_cons_succ, List.getElem_cons_zero]
                refine wpAnyH_take (i := 53) (v := ?_) rfl (by kernel_rfl) (by kernel_rfl) (by kernel_rfl) (fun _ _ _ h => h) (Or.inl ⟨by rfl, ?_⟩) (by assumption) ?_
                rotate_left
                · intro w hSw
                  (try dsimp only at hSw)
                  go_simp
                  all_goals (with_reducible rfl)
                try simp only [Act.put, List.setIfInBounds_toArray, List.set_cons_zero, List.set_cons_succ, List.getElem_toArray, List.getElem_cons_succ, List.getElem_cons_zero]
                refine wpAnyH_take (i := 54) (v := ?_) rfl (by kernel_rfl) (by kernel_rfl) (by kernel_rfl) (fun _ _ _ h => h) (Or.inl ⟨by rfl, ?_⟩) (by assumption) ?_
                rotate_left
                · intro w hSw
                  (try dsimp only at hSw)
                  go_simp
                  all_goals (with_reducible rfl)
                try simp only [Act.put, List.setIfInBounds_toArray, List.set_cons_zero, List.set_cons_succ, List.getElem_toArray, List.getElem_cons_succ, List.getElem_cons_zero]
                refine wpAnyH_take (i := 55) (v := ?_) rfl (by kernel_rfl) (by kernel_rfl) (by kernel_rfl) (fun _ _ _ h => h) (Or.inl ⟨by rfl, ?_⟩) (by assumption) ?_
                rotate_left
                · intro w hSw
                  (try dsimp only at hSw)
                  go_simp
                  all_goals (with_reducible rfl)
                try simp only [Act.put, List.setIfInBounds_toArray, List.set_cons_zero, List.set_cons_succ, List.getElem_toArray, List.getElem_cons_succ, List.getElem_cons_zero]
                have hbz := eqs_below hHeld
                have HZ := Lib.hid (HBK.out.trans ((HBW.out.trans (hbz.mono HBW.out.size)).mono HBK.out.size))
                clear hHeld hbz
                refine wpAnyH_done (by kernel_rfl) ?_ _
                go_wp2
                go_ret
                exact ⟨rfl, HZ.out⟩
end Go.Proofs.Ytcfpgjcepmebdaa.Disc
