/- The property of chapter 19: the walk. -/
import Derived.Test.YtfhpbgmnekhfeaaSheetImpl
import Derived.Test.YtfhpbgmnekhfeaaFitImpl
import Derived.Test.YtfhpbgmnekhfeaaDrawBands
import Derived.Test.YtfhpbgmnekhfeaaSheetsMath
import Derived.Test.YtfhpbgmnekhfeaaDrawCard3
import Derived.Test.YtfhpbgmnekhfeaaAtB
import Derived.Test.YtfhpbgmnekhfeaaBig
import Derived.Deep.DeepCutAuto
import Derived.BigQuiet
import Derived.Lib.QuietBelow
namespace Go.Proofs.Ytfhpbgmnekhfeaa.Sheet
open Go.ChangeShapes Go.WideShapes Go.ChangeAt Go.RowKit Go.Sort
open Go.Proofs.Ytfhpbgmnekhfeaa.Draw (RowIn big_at at_below RowIn.below heap_new)
open Go.Proofs.Ytfhpbgmnekhfeaa.Strip Go.Proofs.Ytfhpbgmnekhfeaa.Strs Go.Proofs.Ytfhpbgmnekhfeaa.Card Go.Proofs.Ytfhpbgmnekhfeaa.Order
set_option linter.unusedVariables false

theorem good_stripS {d f : Int} {s : ByteArray} (hf : frameB d f = true) (h : goodB d f s = true) : stripB s.data.toList = true := by
  unfold goodB at h
  simp only [decide_eq_true_eq] at h
  unfold frameB at hf
  simp only [decide_eq_true_eq] at hf
  cases hs : stripB s.data.toList with
  | true => rfl
  | false =>
    have h1 := h.1
    unfold numV at h1
    rw [hs] at h1
    simp at h1
    omega

theorem own_capS {w : World} {base n c : Nat} {a : Option Addr} {l : List Int} (h : Ints.Own w base (.slice a n c) l) : n ≤ c := by
  obtain ⟨_, ⟨e, _⟩ | ⟨g, cap, cur, e, _, _, h1, _⟩⟩ := h
  · cases e; exact Nat.le_refl _
  · have e2 := Value.slice.inj e
    omega

set_option maxRecDepth 100000 in
set_option maxHeartbeats 8000000 in
theorem sheetsProp (ca : Option Addr) (cl cc : Nat) (w : World) (hm : cl ≤ maxLen) (hr : RowIn w ca cl) :
    Calls Try.prog 3 #[.slice ca cl cc] w fun e w' => e = .returned (.bool true) ∧ Below w.heap.size w w' := by
  by_cases hbig : 1048576 < cl
  · have hd : decide (1048576 < (cl : Int)) = true := by simp; omega
    go_enter Try.func3, Try.ntmps3
    go_wp2_with fail
    refine (big_at ca cl cc w hm).mono ?_
    rintro e w' ⟨rfl, rfl⟩
    rw [hd]
    go_wp2
    go_ret
    exact ⟨rfl, Below.refl _ _⟩
  · have hd : decide (1048576 < (cl : Int)) = false := by simp; omega
    have HR := Lib.hid hr
    obtain ⟨A0, hA0, hat0⟩ := at_below ca cl cc 0 (by decide) w hm hr
    obtain ⟨A1, hA1, hat1⟩ := at_below ca cl cc 1 (by decide) w hm hr
    obtain ⟨A2, hA2, hat2⟩ := at_below ca cl cc 2 (by decide) w hm hr
    rw [show ((0 : Nat) : Int) = 0 from rfl] at hat0
    rw [show ((1 : Nat) : Int) = 1 from rfl] at hat1
    rw [show ((2 : Nat) : Int) = 2 from rfl] at hat2
    have HAT0 := Lib.hid hat0
    have HAT1 := Lib.hid hat1
    have HAT2 := Lib.hid hat2
    clear hr hat0 hat1 hat2
    go_enter Try.func3, Try.ntmps3
    go_wp2_with fail
    refine (big_at ca cl cc w hm).mono ?_
    rintro e w' ⟨rfl, rfl⟩
    rw [hd]
    go_wp2_with fail
    refine drawCard_get ca cl cc w hm HR.out ?_
    intro d f a c sl w0 hd4 hf4 hl6 hcb hb0 ho0
    clear hd hbig
    obtain ⟨m, hm0⟩ : ∃ m, sl.length = m := ⟨_, rfl⟩
    have HL := Lib.hid hm0
    have HROW := Lib.hid (ho0.row2.2)
    have hn := card_nums hcb
    have hb := cardB_iff.1 hcb
    have HST := Lib.hid (show ∀ x ∈ sl, stripB x.data.toList = true from fun x hx => good_stripS hb.1 (hb.2.2.2 x hx))
    have HZ := Lib.hid (show ∀ x ∈ sl, x.size ≤ 1048576 from fun x hx => by
      have h1 := Corner.strip_size (HST.out x hx)
      have h2 : x.data.toList.length = x.size := by simp
      omega)
    have e1 : blankC d f sl = (m : Int) := by unfold blankC; rw [hcb, hm0]; rfl
    have e2 : blankR d f sl = d + f := by unfold blankR; rw [hcb]; rfl
    rw [hm0] at hl6 hn ⊢
    have HBL := Lib.hid (fun (w' : World) (h : Row w' a sl) => blank_impl d f a m c sl w' HL.out (by omega) HZ.out h)
    rw [e1, e2] at HBL
    have HFT := Lib.hid (fun (W H : Int) (w' : World) (h : Row w' a sl) => fit_impl d f a m c sl W H w' HL.out (by omega) HZ.out h)
    have HBT := Lib.hid (fun (W H : Int) (w' : World) (h : Row w' a sl) => best_impl d f a m c sl W H w' HL.out (by omega) HZ.out h)
    have HSH := Lib.hid (fun (W H C : Int) (w' : World) (h : Row w' a sl) => sheets_impl d f a m c sl W H C w' HL.out (by omega) HZ.out h)
    have HCB := Lib.hid hcb
    have HV := Lib.hid (Var.new w0 d f (.slice a m c))
    have ha := alloc_below w0 (.cells #[.int .i64 d, .int .i64 f, .slice a m c] 26)
    have HRW := Lib.hid (HROW.out.below ha)
    have HB := Lib.hid (hb0.trans (ha.mono hb0.size))
    obtain ⟨n0, n1, n2, n3, n4, n5, n6, n7⟩ := hn
    -- the numbers
    obtain ⟨W, hW⟩ : ∃ W : Int, 10 + (A0 : Int) % 100 = W := ⟨_, rfl⟩
    obtain ⟨H, hH⟩ : ∃ H : Int, 12 + (A1 : Int) % 100 = H := ⟨_, rfl⟩
    obtain ⟨C, hC⟩ : ∃ C : Int, (A2 : Int) * 5 = C := ⟨_, rfl⟩
    have hW0 : 10 ≤ W ∧ W ≤ 109 := by omega
    have hH0 : 12 ≤ H ∧ H ≤ 111 := by omega
    have hC0 : 0 ≤ C ∧ C ≤ 1275 := by omega
    have ht0 : Int.tmod (A0 : Int) 100 = (A0 : Int) % 100 := Int.tmod_eq_emod_of_nonneg (by omega)
    have ht1 : Int.tmod (A1 : Int) 100 = (A1 : Int) % 100 := Int.tmod_eq_emod_of_nonneg (by omega)
    have u0 : IntKind.i64.wrap ((A0 : Int) % 100) = (A0 : Int) % 100 := by rw [IntKind.wrap_i64]; omega
    have u1 : IntKind.i64.wrap ((A1 : Int) % 100) = (A1 : Int) % 100 := by rw [IntKind.wrap_i64]; omega
    have u2 : IntKind.i64.wrap (10 + (A0 : Int) % 100) = W := by rw [hW, IntKind.wrap_i64]; omega
    have u3 : IntKind.i64.wrap (12 + (A1 : Int) % 100) = H := by rw [hH, IntKind.wrap_i64]; omega
    have u4 : IntKind.i64.wrap ((A2 : Int) * 5) = C := by rw [hC, IntKind.wrap_i64]; omega
    obtain ⟨R, hR⟩ : ∃ R, d + f = R := ⟨_, rfl⟩
    have u5 : IntKind.i64.wrap (d + f) = R := by rw [hR, IntKind.wrap_i64]; omega
    rw [hR] at HBL n2 n3 e2
    have hfit : fitV d f sl W H = W / (m : Int) * (H / R) := by unfold fitV; rw [if_pos ⟨hcb, by omega, by omega⟩, hm0, hR]
    have hbt := best_turn d f sl W H
    have hle : fitV d f sl W H ≤ bestV d f sl W H := by unfold bestV; omega
    have hfi1 := fit_in (show 0 ≤ W by omega) (show 0 ≤ H by omega) (show 1 ≤ (m : Int) by omega) (show 1 ≤ R by omega)
    have hfi2 := fit_in (show 0 ≤ H by omega) (show 0 ≤ W by omega) (show 1 ≤ (m : Int) by omega) (show 1 ≤ R by omega)
    rw [Int.mul_comm H W] at hfi2
    have hfit2 : fitV d f sl H W = H / (m : Int) * (W / R) := by unfold fitV; rw [if_pos ⟨hcb, by omega, by omega⟩, hm0, hR]
    have hpos1 := quot_pos (show 1 ≤ (m : Int) by omega) (show (m : Int) ≤ W by omega)
    have hpos2 := quot_pos (show 1 ≤ R by omega) (show R ≤ H by omega)
    have hbb := best_bound d f sl W H
    have hle2 : bestV d f sl W H ≤ W * H / ((m : Int) * R) := by
      unfold bestV
      rw [hfit, hfit2]
      omega
    have hge : 1 ≤ fitV d f sl W H := by
      rw [hfit]
      have := Int.mul_le_mul hpos1 hpos2 (by decide) (by omega)
      omega
    have hsh : sheetsV d f sl W H C = (C + bestV d f sl W H - 1) / bestV d f sl W H := by unfold sheetsV; rw [if_pos ⟨by omega, by omega, by omega⟩]
    have hceil := ceil_in (show 0 ≤ C by omega) (show 1 ≤ bestV d f sl W H by omega)
    have hxq := quot_in (show 0 ≤ W by omega) (show W ≤ 200 by omega) (show 1 ≤ (m : Int) by omega)
    have hyq := quot_in (show 0 ≤ H by omega) (show H ≤ 200 by omega) (show 1 ≤ R by omega)
    have t0 : Int.tdiv W (m : Int) = W / (m : Int) := Int.tdiv_eq_ediv_of_nonneg (by omega)
    have t1 : Int.tdiv H R = H / R := Int.tdiv_eq_ediv_of_nonneg (by omega)
    have hP0 : 0 ≤ W * H := Int.mul_nonneg (by omega) (by omega)
    have hP1 := Int.mul_le_mul (show W ≤ 109 by omega) (show H ≤ 111 by omega) (by omega) (show (0 : Int) ≤ 109 by decide)
    have hM0 := Int.mul_le_mul (show 1 ≤ (m : Int) by omega) (show 1 ≤ R by omega) (by decide) (by omega)
    have hM1 := Int.mul_le_mul (show (m : Int) ≤ 6 by omega) (show R ≤ 16 by omega) (by omega) (show (0 : Int) ≤ 6 by decide)
    have t2 : Int.tdiv (W * H) ((m : Int) * R) = W * H / ((m : Int) * R) := Int.tdiv_eq_ediv_of_nonneg hP0
    have w0' : IntKind.i64.wrap (W * H) = W * H := by rw [IntKind.wrap_i64]; omega
    have w1' : IntKind.i64.wrap ((m : Int) * R) = (m : Int) * R := by rw [IntKind.wrap_i64]; omega
    have hZ0 : 0 ≤ W * H / ((m : Int) * R) := Int.ediv_nonneg hP0 (by omega)
    have hZ1 : W * H / ((m : Int) * R) ≤ 12099 := by
      have h1 := Int.ediv_mul_le (W * H) (show (m : Int) * R ≠ 0 by omega)
      have h2 : W * H / ((m : Int) * R) * 1 ≤ W * H / ((m : Int) * R) * ((m : Int) * R) := Int.mul_le_mul_of_nonneg_left (by omega) hZ0
      omega
    have w2' : IntKind.i64.wrap (W * H / ((m : Int) * R)) = W * H / ((m : Int) * R) := by rw [IntKind.wrap_i64]; omega
    have w3' : IntKind.i64.wrap (W / (m : Int)) = W / (m : Int) := by rw [IntKind.wrap_i64]; omega
    have w4' : IntKind.i64.wrap (H / R) = H / R := by rw [IntKind.wrap_i64]; omega
    have w5' : IntKind.i64.wrap (W / (m : Int) * (H / R)) = fitV d f sl W H := by rw [← hfit, IntKind.wrap_i64]; omega
    have HFT0 := HFT.out W H
    have HBT0 := HBT.out W H
    have HBT1 := HBT.out H W
    have HSH0 := HSH.out W H C
    rw [← hbt] at HBT1
    rw [hsh] at HSH0
    have HFT0 := Lib.hid HFT0
    have HBT0 := Lib.hid HBT0
    have HBT1 := Lib.hid HBT1
    have HSH0 := Lib.hid HSH0
    have hSB : (C + bestV d f sl W H - 1) / bestV d f sl W H * bestV d f sl W H ≤ C + bestV d f sl W H - 1 := Int.ediv_mul_le _ (by omega)
    have hS0 : 0 ≤ (C + bestV d f sl W H - 1) / bestV d f sl W H := Int.ediv_nonneg (by omega) (by omega)
    obtain ⟨hc0, hc1⟩ := hceil
    rw [Int.sub_mul, Int.one_mul] at hc1
    generalize fitV d f sl W H = A at *
    generalize bestV d f sl W H = B at *
    generalize (C + B - 1) / B = S at *
    have hST1 : S * 1 ≤ S * B := Int.mul_le_mul_of_nonneg_left (by omega) hS0
    obtain ⟨SB, hSBe⟩ : ∃ SB, S * B = SB := ⟨_, rfl⟩
    obtain ⟨S1, hS1⟩ : ∃ S1, S - 1 = S1 := ⟨_, rfl⟩
    have hS1B : S1 * B = SB - B := by rw [← hS1, Int.sub_mul, hSBe, Int.one_mul]
    rw [hSBe] at hc0 hc1 hSB hST1
    have v0 : IntKind.i64.wrap (S * B) = SB := by rw [hSBe, IntKind.wrap_i64]; omega
    have v1 : IntKind.i64.wrap (S - 1) = S1 := by rw [hS1, IntKind.wrap_i64]; omega
    have v2 : IntKind.i64.wrap (S1 * B) = SB - B := by rw [hS1B, IntKind.wrap_i64]; omega
    generalize W / (m : Int) = X at *
    generalize H / R = Y at *
    obtain ⟨P, hP⟩ : ∃ P, W * H = P := ⟨_, rfl⟩
    obtain ⟨M, hM⟩ : ∃ M, (m : Int) * R = M := ⟨_, rfl⟩
    have w6' : IntKind.i64.wrap (W * H) = P := by rw [w0', hP]
    have w7' : IntKind.i64.wrap ((m : Int) * R) = M := by rw [w1', hM]
    rw [hM, hP] at t2 hle2 w2'
    rw [hM] at hM0
    clear w0' w1'
    generalize P / M = Z at *
    have HC := Lib.hid hC0
    have y0 : ((m : Int) != 0) = true := by simp; omega
    have y1 : ((m : Int) == 0) = false := by simp; omega
    have y2 : (R == 0) = false := by simp; omega
    have y3 : (R != 0) = true := by simp; omega
    have y4 : (M == 0) = false := by simp; omega
    have y5 : (M != 0) = true := by simp; omega
    have y6 : ¬ (m : Int) = 0 := by omega
    have y7 : ¬ R = 0 := by omega
    have y8 : ¬ M = 0 := by omega
    have z1 : ((m : Int) != (m : Int)) = false := by simp
    have z2 : (R != R) = false := by simp
    have z3 : (A != A) = false := by simp
    have z4 : decide (B < A) = false := decide_eq_false (by omega)
    have z5 : (B != B) = false := by simp
    have z6 : decide (Z < B) = false := decide_eq_false (by omega)
    have z7 : (B == 0) = false := by simp; omega
    have z8 : decide (SB < C) = false := decide_eq_false (by omega)
    obtain ⟨D, hD⟩ : ∃ D, (if 1 < C then C else 1) = D := ⟨_, rfl⟩
    have z9 : decide (D ≤ SB - B) = false := decide_eq_false (by
      have : D = max 1 C := by rw [← hD]; split <;> omega
      omega)
    have HMM := Lib.hid hm
    clear hm hm0 hl6 hcb hb e1 e2 hW hH hC hfit hbt hle hfi1 hfi2 hfit2 hpos1 hpos2 hle2 hge hsh hxq hyq hP0 hP1 hM0 hM1 hZ0 hZ1 hSB hS0 hST1 hS1 hS1B hSBe hM hP hb0 ho0 ha n0 n1 n2 n3 n4 n5 n6 n7 hd4 hf4 hc0 hc1 hbb hR HFT HBT HSH hA0 hA1 hA2
    obtain ⟨k0, k1, k2⟩ := HV.out.cells
    go_wp2_with fail
    generalize (w0.alloc (.cells #[.int .i64 d, .int .i64 f, .slice a m c] 26)) = w1 at *
    refine (HBL.out _ HRW.out).mono ?_
    rintro e w2 ⟨rfl, hb⟩
    have HV := Lib.hid (HV.out.below hb)
    have HRW := Lib.hid (HRW.out.below hb)
    have HB := Lib.hid (HB.out.trans (hb.mono HB.out.size))
    clear hb k0 k1 k2
    obtain ⟨k0, k1, k2⟩ := HV.out.cells
    go_wp2_with fail
    refine (HAT0.out _ HB.out).mono ?_
    rintro e w' ⟨rfl, rfl⟩
    go_wp2_with fail
    refine (HAT1.out _ HB.out).mono ?_
    rintro e w' ⟨rfl, rfl⟩
    go_wp2_with fail
    refine (HFT0.out _ HRW.out).mono ?_
    rintro e w3 ⟨rfl, hb⟩
    have HV := Lib.hid (HV.out.below hb)
    have HRW := Lib.hid (HRW.out.below hb)
    have HB := Lib.hid (HB.out.trans (hb.mono HB.out.size))
    clear hb k0 k1 k2
    obtain ⟨k0, k1, k2⟩ := HV.out.cells
    go_wp2_with fail
    refine (HBT0.out _ HRW.out).mono ?_
    rintro e w4 ⟨rfl, hb⟩
    have HV := Lib.hid (HV.out.below hb)
    have HRW := Lib.hid (HRW.out.below hb)
    have HB := Lib.hid (HB.out.trans (hb.mono HB.out.size))
    clear hb k0 k1 k2
    obtain ⟨k0, k1, k2⟩ := HV.out.cells
    go_wp2_with fail
    refine (HAT2.out _ HB.out).mono ?_
    rintro e w' ⟨rfl, rfl⟩
    go_wp2_with fail
    refine (HSH0.out _ HRW.out).mono ?_
    rintro e w5 ⟨rfl, hb⟩
    have HV := Lib.hid (HV.out.below hb)
    have HRW := Lib.hid (HRW.out.below hb)
    have HB := Lib.hid (HB.out.trans (hb.mono HB.out.size))
    clear hb k0 k1 k2
    obtain ⟨k0, k1, k2⟩ := HV.out.cells
    go_wp2_with fail
    have HX := Lib.hid (fun (dd : Nat) (os : Array Obj) => Calls.regrown_of (HBT1.out (grow (redrawn w5 dd) os) (HRW.out.below (below_regrown w5 dd os))))
    have k0 := cell_regrown k0
    have k1 := cell_regrown k1
    have k2 := cell_regrown k2
    refine wp_region_quiet_below (by kernel_rfl) (by kernel_rfl) ?_
    simp only [List.append_eq, List.cons_append, List.nil_append]
    repeat (go_big_quiet_step ((go_at_call 14; with_reducible exact HX.out _ _)))
    refine wpQuiet_nil ?_
    intro _ hw'
    obtain ⟨⟨dq, osq⟩, hw''⟩ := hw'
    subst hw''
    have hbr := below_regrown w5 dq osq
    have HB := Lib.hid (HB.out.trans (hbr.mono HB.out.size))
    clear hbr k0 k1 k2 HX
    generalize (grow (redrawn w5 dq) osq) = w6 at *
    go_wp2_with fail
    clear HV HRW HBL HFT0 HBT0 HBT1 HSH0 HAT0 HAT1 HAT2 HROW HST HZ HCB HL HC hW0 hH0 hC0 ht0 ht1 u0 u1 u2 u3 u4 u5 t0 t1 t2 w2' w3' w4' w5' w6' w7' v0 v1 v2 y0 y1 y2 y3 y4 y5 y6 y7 y8 z1 z2 z3 z4 z5 z6 z7 z8 z9 hD
    refine drawBands_get ca cl cc w6 HMM.out (HR.out.below HB.out (Nat.le_refl _)) ?_
    intro Wb a' c' l w7 hb0 hb1 hl11 hlr ho hbw
    obtain ⟨n, hn⟩ : ∃ n, l.length = n := ⟨_, rfl⟩
    have HLN := Lib.hid hn
    have HLR := Lib.hid hlr
    have hB7 := HB.out.trans (hbw.mono HB.out.size)
    have HB := Lib.hid hB7
    have HO := Lib.hid ho
    have HNC := Lib.hid (own_capS ho)
    rw [hn] at ho HO HNC hl11 ⊢
    have hrb : rowsB Wb l = true := rowsB_iff.2 ⟨by omega, by omega, fun x hx => hlr x hx⟩
    have hff : ffV Wb l = nums Wb l := by unfold ffV; rw [hrb]; rfl
    have hir : Ints.IRow w7 a' l := by
      obtain ⟨_, _, e, hr, _⟩ := ho.row
      cases e; exact hr
    have hfi := ff_impl Wb a' n c' l w7 hn (by omega) HNC.out hir
    rw [hff] at hfi
    unfold Corner.PostRow at hfi
    have HFI := Lib.hid hfi
    have HNL := Lib.hid (show (nums Wb l).length = n by
      have h := nums_length Wb l l.length (Nat.le_refl _)
      rw [List.take_length, hn] at h; exact h)
    clear hn hlr ho hbw hB7 hrb hff hir hfi
    go_wp2_with fail
    refine HFI.out.mono ?_
    rintro e w8 ⟨v, rfl, hb, ho⟩
    obtain ⟨an, cn, e9, _, _⟩ := ho.row
    rw [HNL.out] at e9
    subst e9
    have HB := Lib.hid (HB.out.trans (hb.mono HB.out.size))
    have HO := Lib.hid (HO.out.below hb)
    have HON := Lib.hid ho
    clear hb ho HFI
    have q0 : ((n : Int) != (n : Int)) = false := by simp
    obtain ⟨K, hK⟩ : ∃ K, n + 1 = K := ⟨_, rfl⟩
    have eK : IntKind.i64.wrap ((n : Int) + 1) = (K : Int) := by rw [IntKind.wrap_i64]; omega
    obtain ⟨i0, hi, hz0, hz1, hz2⟩ := info_parts Ints.info_int8
    obtain ⟨w9, hmk, hown1, hg1⟩ := run_make_full (P := Try.prog) w8 w8.heap.size 33 3 i0 _ 1 Try.underlying33 hi hz0 hz1 .i64 .i64 K (by rw [hz2]; omega) (by unfold maxLen; omega) (Nat.le_refl _)
    rw [Ints.made_ints] at hown1
    have HB9 := Lib.hid (show Below w8.heap.size w8 w9 from (Below.refl _ _).grown hg1 (Nat.le_refl _) (fun t e => by cases e))
    have HP9 : Hid (Ints.Own w9 w8.heap.size (.slice (some ⟨w8.heap.size, 0, none⟩) K K) (padL K (loads Wb (l.take 0)))) := Lib.hid (by
      show Ints.Own _ _ _ (padL K [])
      rw [padL_nil]
      unfold Ints.Own
      rw [List.length_replicate]; exact hown1)
    clear hown1 hg1 hi hz0 hz1 hz2 i0
    go_wp2_with fail
    clear hmk eK q0
    go_loopw [15, 16, 18] (fun mo tt i wr => ∃ k : Nat, k ≤ n ∧ i = .int .i64 (k : Int) ∧ mo = .int .i64 (((loads Wb (l.take k)).length : Int) - 1) ∧ tt = .int .i64 (sumL (l.take k)) ∧ Hid (Ints.Own wr w8.heap.size (.slice (some ⟨w8.heap.size, 0, none⟩) K K) (padL K (loads Wb (l.take k)))) ∧ Hid (Below w8.heap.size w8 wr)) (fun _ _ i _ => n - (intOf i).toNat)
    case atStart => exact ⟨0, Nat.zero_le _, rfl, rfl, rfl, HP9, HB9⟩
    case round =>
      clear HP9 HB9
      obtain ⟨k, hk, rfl, rfl, rfl, HP, HBR⟩ := hrel
      have k0 : (0 : Int) ≤ (k : Int) := Int.natCast_nonneg _
      have hlo := loads_in HLR.out k (by rw [HLN.out]; exact hk)
      have HLO := Lib.hid hlo
      have hsu : 0 ≤ sumL (l.take k) ∧ sumL (l.take k) ≤ 11000 := by
        have h1 := sum_small (l := l.take k) (fun x hx => by have := HLR.out x (List.mem_of_mem_take hx); omega)
        have h2 : (l.take k).length ≤ k := List.length_take_le _ _
        omega
      obtain ⟨s0, s1⟩ := hsu
      have hfew := hlo.few
      by_cases hlt : k < n
      · have k1 : (k : Int) < (n : Int) := by omega
        have hkl : k < l.length := by rw [HLN.out]; exact hlt
        have hng := nums_get Wb l k hkl
        have hls := loads_take Wb l k hkl
        have hst := sumL_take l k hkl
        have hxr := HLR.out _ (List.getElem_mem hkl)
        obtain ⟨gr, rfl, hgr, hcr⟩ : ∃ g, a' = some ⟨g, 0, none⟩ ∧ g < w8.heap.size ∧ w8.cell? ⟨g, k, none⟩ = some (.int .i64 l[k]) := by
          obtain ⟨_, _, e, hr, _⟩ := HO.out.row
          cases e
          exact hr k hkl
        have hkn : k < (nums Wb l).length := by rw [HNL.out]; exact hlt
        obtain ⟨gn, rfl, hgn, hcn⟩ : ∃ g, an = some ⟨g, 0, none⟩ ∧ g < w8.heap.size ∧ w8.cell? ⟨g, k, none⟩ = some (.int .i64 (nums Wb l)[k]) := by
          obtain ⟨_, _, e, hr, _⟩ := HON.out.row
          cases e
          exact hr k hkn
        rw [List.getElem?_eq_getElem hkn] at hng
        rw [Option.some.inj hng] at hcn
        obtain ⟨J, hJ⟩ : ∃ J, firstB Wb l[k] (loads Wb (l.take k)) = J := ⟨_, rfl⟩
        have hle := first_le Wb l[k] (loads Wb (l.take k))
        rw [hJ] at hcn hle
        obtain ⟨y, hy1, hy2, hy3⟩ := pad_step (K := K) hJ (by omega)
        have hmo := most_step hJ
        rw [← hls] at hy2 hmo
        have hy : 0 ≤ y ∧ y ≤ 39 := by
          rcases hy3 with ⟨z, hz, rfl⟩ | rfl
          · have := HLO.out.low y hz; omega
          · omega
        have hr1 := (HBR.out.cell (p := ⟨gr, k, none⟩) hgr).trans hcr
        have hn1 := (HBR.out.cell (p := ⟨gn, k, none⟩) hgn).trans hcn
        have hJp : J < (padL K (loads Wb (l.take k))).length := by rw [padL_length (by omega)]; omega
        have hp1 := HP.out.cell hJp
        rw [List.getElem?_eq_getElem hJp] at hy1
        rw [Option.some.inj hy1] at hp1
        have hf1 := HP.out.free J
        have hset := HP.out.set (y + l[k]) hJp
        rw [hy2] at hset
        have HP2 := Lib.hid hset
        have HB2 := Lib.hid (HBR.out.setCell (p := ⟨w8.heap.size, J, none⟩) (Nat.le_refl _) (.int .i64 (y + l[k])))
        have HMO := Lib.hid hmo
        have HSU := Lib.hid hst
        obtain ⟨lo, hlo2⟩ : ∃ lo, (loads Wb (l.take k)).length = lo := ⟨_, rfl⟩
        rw [hlo2] at hmo hle hfew ⊢
        have HCR := Lib.hid (fun w' (hb : Below w8.heap.size w8 w') => (hb.cell (p := ⟨gr, k, none⟩) hgr).trans hcr)
        clear hset hy1 hy2 hy3 hls hst hng hcn hcr hgr hgn hkn hJp hlo HP HBR hlo2 HLO HMO
        obtain ⟨lo2, hlo3⟩ : ∃ lo2 : Int, ((loads Wb (l.take (k + 1))).length : Int) - 1 = lo2 := ⟨_, rfl⟩
        rw [hlo3] at hmo
        have HLE := Lib.hid hlo3
        obtain ⟨hx0, hx1⟩ := hxr
        obtain ⟨hy0, hy4⟩ := hy
        generalize sumL (l.take k) = p at *
        generalize l[k] = x at *
        have j0 : (0 : Int) ≤ (J : Int) := Int.natCast_nonneg _
        have j1 : (J : Int) < (K : Int) := by omega
        have d0 : decide ((J : Int) < 0) = false := decide_eq_false (by omega)
        have e0 : IntKind.i64.wrap ((lo : Int) - 1 + 1) = (lo : Int) := by rw [IntKind.wrap_i64]; omega
        have e0b : (lo : Int) - 1 + 1 = (lo : Int) := by omega
        have e0c : IntKind.i64.wrap (lo : Int) = (lo : Int) := by rw [IntKind.wrap_i64]; omega
        have d1 : decide ((lo : Int) < (J : Int)) = false := decide_eq_false (by omega)
        have d1b : decide (lo < J) = false := decide_eq_false (by omega)
        have e1 : IntKind.i64.wrap (y + x) = y + x := by rw [IntKind.wrap_i64]; omega
        have e2 : IntKind.i64.wrap (p + x) = p + x := by rw [IntKind.wrap_i64]; omega
        clear hlo3 hJ
        go_wp2_with fail
        go_region
        have HP3 := Lib.hid (HP2.out.below ((Below.refl _ _).drew))
        have HB3 := Lib.hid HB2.out.drew
        clear HP2 HB2 hr1 hn1 hp1 hf1
        generalize (wr.setCell ⟨w8.heap.size, J, none⟩ (.int .i64 (y + x))).drew = w10 at *
        have hr1 := HCR.out _ HB3.out
        go_wp2
        go_roundw
        case rel => exact ⟨k + 1, by omega, by go_num, by rw [HLE.out], by rw [HSU.out], HP3, HB3⟩
        case measure => simp [intOf]; omega
      · obtain rfl : k = n := by omega
        have hta : l.take k = l := by rw [← HLN.out]; exact List.take_length
        rw [hta] at hlo HP s0 s1 ⊢
        have hhalf := half_in (show 0 ≤ Wb by omega) hlo
        have hfew := hlo.few
        have HLO := Lib.hid hlo
        have HB := Lib.hid (HB.out.trans (HBR.out.mono (by exact HB.out.size)))
        obtain ⟨lo, hlo2⟩ : ∃ lo, (loads Wb l).length = lo := ⟨_, rfl⟩
        have HLL := Lib.hid hlo2
        rw [hlo2] at hhalf hfew ⊢
        clear hta hlo hlo2 HO HON hlt HBR HLR HNL
        generalize loads Wb l = L at *
        generalize sumL l = p at *
        go_wp2_with fail
        go_loopw [19] (fun i wr' => ∃ k : Nat, k ≤ lo ∧ i = .int .i64 (k : Int) ∧ Hid (Ints.Own wr' w8.heap.size (.slice (some ⟨w8.heap.size, 0, none⟩) K K) (padL K L)) ∧ Hid (Below w.heap.size w wr')) (fun i _ => lo - (intOf i).toNat)
        case atStart => exact ⟨0, Nat.zero_le _, rfl, HP, HB⟩
        case round =>
          clear HP HB
          obtain ⟨q, hq, rfl, HP, HB⟩ := hrel
          have g0 : (0 : Int) ≤ (q : Int) := Int.natCast_nonneg _
          by_cases hql : q < lo
          · have hqL : q < L.length := by rw [HLL.out]; exact hql
            have g1 : (q : Int) ≤ (lo : Int) - 1 := by omega
            have g1b : decide ((q : Int) ≤ (lo : Int) - 1) = true := decide_eq_true g1
            have g2 : (q : Int) < (K : Int) := by omega
            have hqp : q < (padL K L).length := by rw [padL_length (by rw [HLL.out]; omega)]; omega
            have hc1 := HP.out.cell hqp
            have hy1 := padL_get (K := K) hqL
            rw [List.getElem?_eq_getElem hqp] at hy1
            rw [Option.some.inj hy1] at hc1
            have hlow := HLO.out.low _ (List.getElem_mem hqL)
            have d0 : decide (Wb < L[q]) = false := decide_eq_false (by omega)
            by_cases hq0 : q = 0
            · have HQ0 := Lib.hid hq0
              have d1 : decide ((0 : Int) < (q : Int)) = false := decide_eq_false (by omega)
              have d1b : decide (0 < q) = false := decide_eq_false (by omega)
              generalize L[q] = y at *
              clear hqp hy1 hqL hq0 hlow
              go_wp2_with fail
              go_quiet (fail)
              have HP2 := Lib.hid (HP.out.below (Ints.drewN_below wr nq))
              have HB2 := Lib.hid (HB.out.trans ((Ints.drewN_below wr nq).mono HB.out.size))
              clear hc1 HP HB
              go_wp2
              go_roundw
              case rel => exact ⟨q + 1, by omega, by go_num, HP2, HB2⟩
              case measure => simp [intOf]; omega
            · obtain ⟨z, hz⟩ : ∃ z, q = z + 1 := ⟨q - 1, by omega⟩
              have hzL : z < L.length := by omega
              have hzp : z < (padL K L).length := by omega
              have hc2 := HP.out.cell hzp
              have hy2 := padL_get (K := K) hzL
              rw [List.getElem?_eq_getElem hzp] at hy2
              rw [Option.some.inj hy2] at hc2
              have hlow2 := HLO.out.low _ (List.getElem_mem hzL)
              have htwo := HLO.out.two z q hzL hqL (by omega)
              have d1 : decide ((0 : Int) < (q : Int)) = true := decide_eq_true (by omega)
              have d1b : decide (0 < q) = true := decide_eq_true (by omega)
              have e1 : IntKind.i64.wrap ((q : Int) - 1) = (z : Int) := by rw [IntKind.wrap_i64]; omega
              have e2 : IntKind.i64.wrap (L[q] + L[z]) = L[q] + L[z] := by rw [IntKind.wrap_i64]; omega
              have d2 : decide (L[q] + L[z] ≤ Wb) = false := decide_eq_false (by omega)
              have f0 : (0 : Int) ≤ (z : Int) := Int.natCast_nonneg _
              have f1 : (z : Int) < (K : Int) := by omega
              have HZQ := Lib.hid hz
              generalize L[q] = y at *
              generalize L[z] = y2 at *
              clear hqp hy1 hqL hq0 hlow hzp hy2 hzL hlow2 htwo hz
              go_wp2_with fail
              go_quiet (fail)
              have HP2 := Lib.hid (HP.out.below (Ints.drewN_below wr nq))
              have HB2 := Lib.hid (HB.out.trans ((Ints.drewN_below wr nq).mono HB.out.size))
              clear hc1 hc2 HP HB
              go_wp2
              go_roundw
              case rel => exact ⟨q + 1, by omega, by go_num, HP2, HB2⟩
              case measure => simp [intOf]; omega
          · obtain rfl : q = lo := by omega
            have g1b : decide ((q : Int) ≤ (q : Int) - 1) = false := decide_eq_false (by omega)
            have g1c : ¬ (q : Int) ≤ (q : Int) - 1 := by omega
            obtain ⟨D2, hD2⟩ : ∃ D2, (if 1 < 2 * p then 2 * p else 1) = D2 := ⟨_, rfl⟩
            have hD3 : D2 = max 1 (2 * p) := by rw [← hD2]; split <;> omega
            have hm1 : ((q : Int) - 1) * Wb ≤ 10 * 39 := by
              by_cases h0 : 1 ≤ q
              · exact Int.mul_le_mul (by omega) (by omega) (by omega) (by decide)
              · have e : (q : Int) - 1 = -1 := by omega
                rw [e]; omega
            have hm0 : -39 ≤ ((q : Int) - 1) * Wb := by
              by_cases h0 : 1 ≤ q
              · have := Int.mul_nonneg (show 0 ≤ (q : Int) - 1 by omega) (show 0 ≤ Wb by omega)
                omega
              · have e : (q : Int) - 1 = -1 := by omega
                rw [e]; omega
            obtain ⟨T, hT⟩ : ∃ T, ((q : Int) - 1) * Wb = T := ⟨_, rfl⟩
            rw [hT] at hhalf hm0 hm1
            have e1 : IntKind.i64.wrap (((q : Int) - 1) * Wb) = T := by rw [hT, IntKind.wrap_i64]; omega
            have e2 : IntKind.i64.wrap (2 * p) = 2 * p := by rw [IntKind.wrap_i64]; omega
            have d1 : decide (T < D2) = true := decide_eq_true (by omega)
            clear hT hD3 hhalf hm0 hm1
            go_wp2
            go_ret
            exact ⟨rfl, HB.out⟩
end Go.Proofs.Ytfhpbgmnekhfeaa.Sheet
