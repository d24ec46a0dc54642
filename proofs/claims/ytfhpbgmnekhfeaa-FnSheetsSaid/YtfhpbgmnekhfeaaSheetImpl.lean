/- What the program of chapter 19 returns of cards: BlankOf, FitOn, BestFit, SheetsFor (printed by wip/gen_sheet.py). -/
import Derived.Test.YtfhpbgmnekhfeaaSheetDef
import Derived.Deep.RegionHeld3
import Derived.BigQuiet
import Derived.Lib.QuietBelow
namespace Go.Proofs.Ytfhpbgmnekhfeaa.Sheet
open Go.ChangeShapes Go.WideShapes Go.ChangeAt Go.RowKit Go.Sort
open Go.Proofs.Ytfhpbgmnekhfeaa.Strip Go.Proofs.Ytfhpbgmnekhfeaa.Strs Go.Proofs.Ytfhpbgmnekhfeaa.Card
set_option linter.unusedVariables false

theorem side_impl (x : Int) (w : World) : Calls Try.prog 33 #[.int .i64 x] w fun e w' => e = .returned (.bool (decide (1 ≤ x ∧ x ≤ 200))) ∧ w = w' := by
  by_cases h1 : 1 ≤ x
  · have q1 : decide (1 ≤ x) = true := decide_eq_true h1
    by_cases h2 : x ≤ 200
    · have q2 : decide (x ≤ 200) = true := decide_eq_true h2
      rw [decide_eq_true (show 1 ≤ x ∧ x ≤ 200 from ⟨h1, h2⟩)]
      go_enter Try.func33, Try.ntmps33
      go_wp2
      go_ret
      exact ⟨rfl, rfl⟩
    · have q2 : decide (x ≤ 200) = false := decide_eq_false h2
      rw [decide_eq_false (show ¬ (1 ≤ x ∧ x ≤ 200) from fun h => h2 h.2)]
      go_enter Try.func33, Try.ntmps33
      go_wp2
      go_ret
      exact ⟨rfl, rfl⟩
  · have q1 : decide (1 ≤ x) = false := decide_eq_false h1
    rw [decide_eq_false (show ¬ (1 ≤ x ∧ x ≤ 200) from fun h => h1 h.1)]
    go_enter Try.func33, Try.ntmps33
    go_wp2
    go_ret
    exact ⟨rfl, rfl⟩

set_option maxRecDepth 100000 in
set_option maxHeartbeats 2000000 in
theorem blank_impl (d f : Int) (a : Option Addr) (m c : Nat) (l : List ByteArray) (w : World) (hl : l.length = m) (hm : m ≤ 1048576) (hz : ∀ s ∈ l, s.size ≤ 1048576) (hr : Row w a l) :
    Calls Try.prog 11 #[.agg #[.int .i64 d, .int .i64 f, .slice a m c]] w fun e w' => e = .returned (.tuple #[.int .i64 (blankC d f l), .int .i64 (blankR d f l)]) ∧ Below w.heap.size w w' := by
  have HBa := Lib.hid (alloc_below w (.cells #[.int .i64 d, .int .i64 f, .slice a m c] 26))
  have HVa := Lib.hid (Var.new w d f (.slice a m c))
  have HR := Lib.hid (hr.below HBa.out)
  have HL := Lib.hid hl
  have HOK := Lib.hid (fun (w' : World) (h : Row w' a l) => ok_impl d f a m c l w' hl hm hz h)
  unfold blankC blankR
  cases hb : cardB d f l with
  | false =>
    rw [hb] at HOK
    simp only [Bool.false_eq_true, if_false]
    clear hr hb hz hl
    go_enter Try.func11, Try.ntmps11
    go_wp2_with fail
    refine (HOK.out _ HR.out).mono ?_
    rintro e w1 ⟨rfl, hb1⟩
    have HBb := Lib.hid (HBa.out.trans (hb1.mono HBa.out.size))
    clear hb1
    go_wp2
    go_ret2
    exact ⟨rfl, HBb.out⟩
  | true =>
    rw [hb] at HOK
    simp only [if_true]
    have hn := card_nums hb
    rw [hl] at hn ⊢
    obtain ⟨n0, n1, n2, n3, n4, n5, n6, n7⟩ := hn
    clear hr hb hz hl
    go_enter Try.func11, Try.ntmps11
    go_wp2_with fail
    refine (HOK.out _ HR.out).mono ?_
    rintro e w1 ⟨rfl, hb1⟩
    have HBb := Lib.hid (HBa.out.trans (hb1.mono HBa.out.size))
    have HVb := Lib.hid (HVa.out.below hb1)
    clear hb1 HR HOK HBa HVa
    obtain ⟨k0, k1, k2⟩ := HVb.out.cells
    go_wp2_with fail
    go_quiet (fail)
    go_wp2
    go_ret2
    exact ⟨rfl, HBb.out.trans ((Strip.below_drewN _ _).mono HBb.out.size)⟩

set_option maxRecDepth 100000 in
set_option maxHeartbeats 4000000 in
theorem fit_impl (d f : Int) (a : Option Addr) (m c : Nat) (l : List ByteArray) (W H : Int) (w : World) (hl : l.length = m) (hm : m ≤ 1048576) (hz : ∀ s ∈ l, s.size ≤ 1048576) (hr : Row w a l) :
    Calls Try.prog 13 #[.int .i64 W, .int .i64 H, .agg #[.int .i64 d, .int .i64 f, .slice a m c]] w fun e w' => e = .returned (.int .i64 (fitV d f l W H)) ∧ Below w.heap.size w w' := by
  have HBa := Lib.hid (alloc_below w (.cells #[.int .i64 d, .int .i64 f, .slice a m c] 26))
  have HVa := Lib.hid (Var.new w d f (.slice a m c))
  have HR := Lib.hid (hr.below HBa.out)
  have HL := Lib.hid hl
  have HBL := Lib.hid (fun (w' : World) (h : Row w' a l) => blank_impl d f a m c l w' hl hm hz h)
  have HOK := Lib.hid (fun (w' : World) (h : Row w' a l) => ok_impl d f a m c l w' hl hm hz h)
  cases hb : cardB d f l with
  | false =>
    have hv : fitV d f l W H = 0 := by unfold fitV; rw [hb]; simp
    have e1 : blankC d f l = 0 := by unfold blankC; rw [hb]; rfl
    have e2 : blankR d f l = 0 := by unfold blankR; rw [hb]; rfl
    rw [hv]
    rw [e1, e2] at HBL
    rw [hb] at HOK
    clear hr hb hz hl hv e1 e2
    go_enter Try.func13, Try.ntmps13
    go_wp2_with fail
    refine (HOK.out _ HR.out).mono ?_
    rintro e w1 ⟨rfl, hb1⟩
    have HBb := Lib.hid (HBa.out.trans (hb1.mono HBa.out.size))
    clear hb1
    go_wp2
    go_ret
    exact ⟨rfl, HBb.out⟩
  | true =>
    have hn := card_nums hb
    have e1 : blankC d f l = (m : Int) := by unfold blankC; rw [hb, hl]; rfl
    have e2 : blankR d f l = d + f := by unfold blankR; rw [hb]; rfl
    rw [e1, e2] at HBL
    rw [hl] at hn
    obtain ⟨n0, n1, n2, n3, _⟩ := hn
    have z0 : ((m : Int) == 0) = false := by simp; omega
    have z0b : (m == 0) = false := by simp; omega
    rw [hb] at HOK

    by_cases hW : 1 ≤ W ∧ W ≤ 200
    · have qW := decide_eq_true hW
      by_cases hH : 1 ≤ H ∧ H ≤ 200
      · have qH := decide_eq_true hH
        have hv : fitV d f l W H = W / (m : Int) * (H / (d + f)) := by unfold fitV; rw [if_pos ⟨hb, hW, hH⟩, hl]
        rw [hv]
        obtain ⟨x0, x1⟩ := quot_in (show 0 ≤ W by omega) hW.2 n0
        obtain ⟨y0, y1⟩ := quot_in (show 0 ≤ H by omega) hH.2 (show 1 ≤ d + f by omega)
        obtain ⟨p0, p1⟩ := quots_in x0 x1 y0 y1
        have t0 : Int.tdiv W (m : Int) = W / (m : Int) := Int.tdiv_eq_ediv_of_nonneg (by omega)
        have t1 : Int.tdiv H (d + f) = H / (d + f) := Int.tdiv_eq_ediv_of_nonneg (by omega)
        obtain ⟨hW0, hW1⟩ := hW
        obtain ⟨hH0, hH1⟩ := hH
        generalize W / (m : Int) = X at *
        generalize H / (d + f) = Y at *
        have w0 : IntKind.i64.wrap X = X := by rw [IntKind.wrap_i64]; omega
        have w1 : IntKind.i64.wrap Y = Y := by rw [IntKind.wrap_i64]; omega
        have w2 : IntKind.i64.wrap (X * Y) = X * Y := by rw [IntKind.wrap_i64]; omega
        generalize d + f = R at *
        have z1 : (R == 0) = false := by simp; omega
        have z2 : (R != 0) = true := by simp; omega
        have z3 : ((m : Int) != 0) = true := by simp; omega
        have z4 : ¬ (m : Int) = 0 := by omega
        have z5 : ¬ R = 0 := by omega
        have z6 : ¬ m = 0 := by omega
        clear hr hb hz hl hv e1 e2
        go_enter Try.func13, Try.ntmps13
        go_wp2_with fail
        refine (HOK.out _ HR.out).mono ?_
        rintro e w1 ⟨rfl, hb1⟩
        have HBb := Lib.hid (HBa.out.trans (hb1.mono HBa.out.size))
        have HVb := Lib.hid (HVa.out.below hb1)
        have HRb := Lib.hid (HR.out.below hb1)
        clear hb1 HBa HVa HR
        go_wp2_with fail
        refine (side_impl W _).mono ?_
        rintro e w' ⟨rfl, rfl⟩
        rw [qW]
        clear qW
        go_wp2_with fail
        refine (side_impl H _).mono ?_
        rintro e w' ⟨rfl, rfl⟩
        rw [qH]
        clear qH
        obtain ⟨k0, k1, k2⟩ := HVb.out.cells
        go_wp2_with fail
        clear k0 k1 k2
        refine (HBL.out _ HRb.out).mono ?_
        rintro e w2 ⟨rfl, hb1⟩
        have HBb := Lib.hid (HBb.out.trans (hb1.mono HBb.out.size))
        clear hb1 HRb HVb
        go_wp2_with fail
        go_quiet (fail)
        go_wp2
        go_ret
        exact ⟨rfl, HBb.out.trans ((Strip.below_drewN _ _).mono HBb.out.size)⟩
      · have qH := decide_eq_false hH
        have hv : fitV d f l W H = 0 := by unfold fitV; rw [if_neg (fun h => hH h.2.2)]
        rw [hv]
        clear hr hb hz hl hv e1 e2 hH hW
        go_enter Try.func13, Try.ntmps13
        go_wp2_with fail
        refine (HOK.out _ HR.out).mono ?_
        rintro e w1 ⟨rfl, hb1⟩
        have HBb := Lib.hid (HBa.out.trans (hb1.mono HBa.out.size))
        have HVb := Lib.hid (HVa.out.below hb1)
        have HRb := Lib.hid (HR.out.below hb1)
        clear hb1 HBa HVa HR
        go_wp2_with fail
        refine (side_impl W _).mono ?_
        rintro e w' ⟨rfl, rfl⟩
        rw [qW]
        clear qW
        go_wp2_with fail
        refine (side_impl H _).mono ?_
        rintro e w' ⟨rfl, rfl⟩
        rw [qH]
        clear qH
        go_wp2
        go_ret
        exact ⟨rfl, HBb.out⟩
    · have qW := decide_eq_false hW
      have hv : fitV d f l W H = 0 := by unfold fitV; rw [if_neg (fun h => hW h.2.1)]
      rw [hv]
      clear hr hb hz hl hv e1 e2 hW
      go_enter Try.func13, Try.ntmps13
      go_wp2_with fail
      refine (HOK.out _ HR.out).mono ?_
      rintro e w1 ⟨rfl, hb1⟩
      have HBb := Lib.hid (HBa.out.trans (hb1.mono HBa.out.size))
      have HVb := Lib.hid (HVa.out.below hb1)
      have HRb := Lib.hid (HR.out.below hb1)
      clear hb1 HBa HVa HR
      go_wp2_with fail
      refine (side_impl W _).mono ?_
      rintro e w' ⟨rfl, rfl⟩
      rw [qW]
      clear qW
      go_wp2
      go_ret
      exact ⟨rfl, HBb.out⟩

set_option maxRecDepth 100000 in
set_option maxHeartbeats 4000000 in
theorem best_impl (d f : Int) (a : Option Addr) (m c : Nat) (l : List ByteArray) (W H : Int) (w : World) (hl : l.length = m) (hm : m ≤ 1048576) (hz : ∀ s ∈ l, s.size ≤ 1048576) (hr : Row w a l) :
    Calls Try.prog 14 #[.int .i64 W, .int .i64 H, .agg #[.int .i64 d, .int .i64 f, .slice a m c]] w fun e w' => e = .returned (.int .i64 (bestV d f l W H)) ∧ Below w.heap.size w w' := by
  have HBa := Lib.hid (alloc_below w (.cells #[.int .i64 d, .int .i64 f, .slice a m c] 26))
  have HVa := Lib.hid (Var.new w d f (.slice a m c))
  have HR := Lib.hid (hr.below HBa.out)
  have HL := Lib.hid hl
  have HR0 := Lib.hid hr
  have HFA := Lib.hid (fun (w' : World) (h : Row w' a l) => fit_impl d f a m c l W H w' hl hm hz h)
  have HFB := Lib.hid (fun (w' : World) (h : Row w' a l) => fit_impl d f a m c l H W w' hl hm hz h)
  unfold bestV
  have b0 := fit_bound d f l W H
  have b1 := fit_bound d f l H W
  generalize fitV d f l W H = X at *
  generalize fitV d f l H W = Y at *
  obtain ⟨x0, x1⟩ := b0
  obtain ⟨y0, y1⟩ := b1
  clear hr hz hl
  go_enter Try.func14, Try.ntmps14
  go_wp2_with fail
  obtain ⟨k0, k1, k2⟩ := HVa.out.cells
  generalize (w.alloc (.cells #[.int .i64 d, .int .i64 f, .slice a m c] 26)) = wa at *
  have HX := Lib.hid (fun (dd : Nat) (os : Array Obj) => Calls.regrown_of (HFA.out (grow (redrawn wa dd) os) (HR0.out.below (HBa.out.trans ((below_regrown wa dd os).mono HBa.out.size)))))
  have HY := Lib.hid (fun (dd : Nat) (os : Array Obj) => Calls.regrown_of (HFB.out (grow (redrawn wa dd) os) (HR0.out.below (HBa.out.trans ((below_regrown wa dd os).mono HBa.out.size)))))
  have k0 := cell_regrown k0
  have k1 := cell_regrown k1
  have k2 := cell_regrown k2
  refine wp_region_quiet_below (by kernel_rfl) (by kernel_rfl) ?_
  repeat (go_big_quiet_step ((first | (go_at_call_of 13 (Value.int .i64 W); with_reducible exact HX.out _ _) | (go_at_call_of 13 (Value.int .i64 H); with_reducible exact HY.out _ _))))
  refine wpQuiet_nil ?_
  intro _ hw'
  obtain ⟨⟨dq, osq⟩, hw''⟩ := hw'
  subst hw''
  have hbr := below_regrown wa dq osq
  have HBb := Lib.hid (HBa.out.trans (hbr.mono HBa.out.size))
  clear hbr k0 k1 k2
  generalize (grow (redrawn wa dq) osq) = w5 at *
  go_wp2
  all_goals
    go_ret
    exact ⟨ret_i (by omega), HBb.out⟩

set_option maxRecDepth 100000 in
set_option maxHeartbeats 4000000 in
theorem sheets_impl (d f : Int) (a : Option Addr) (m c : Nat) (l : List ByteArray) (W H C : Int) (w : World) (hl : l.length = m) (hm : m ≤ 1048576) (hz : ∀ s ∈ l, s.size ≤ 1048576) (hr : Row w a l) :
    Calls Try.prog 15 #[.int .i64 W, .int .i64 H, .agg #[.int .i64 d, .int .i64 f, .slice a m c], .int .i64 C] w fun e w' => e = .returned (.int .i64 (sheetsV d f l W H C)) ∧ Below w.heap.size w w' := by
  have HBa := Lib.hid (alloc_below w (.cells #[.int .i64 d, .int .i64 f, .slice a m c] 26))
  have HVa := Lib.hid (Var.new w d f (.slice a m c))
  have HR := Lib.hid (hr.below HBa.out)
  have HL := Lib.hid hl
  have HBF := Lib.hid (fun (w' : World) (h : Row w' a l) => best_impl d f a m c l W H w' hl hm hz h)
  have b0 := best_bound d f l W H
  unfold sheetsV
  generalize bestV d f l W H = X at *
  obtain ⟨x0, x1⟩ := b0
  have q1 : (0 : Int) < 1 := by decide
  clear hr hz hl
  by_cases hX : X = 0
  · have qX : (X == 0) = true := by simp [hX]
    rw [if_neg (fun h => h.1 hX)]
    clear hX
    go_enter Try.func15, Try.ntmps15
    go_wp2_with fail
    refine (HBF.out _ HR.out).mono ?_
    rintro e w1 ⟨rfl, hb1⟩
    have HBb := Lib.hid (HBa.out.trans (hb1.mono HBa.out.size))
    clear hb1 HBa HVa HR
    go_wp2
    go_ret
    exact ⟨rfl, HBb.out⟩
  · have qX : (X == 0) = false := by simpa using hX
    by_cases hC : 0 ≤ C ∧ C ≤ 100000
    · rw [if_pos ⟨hX, hC⟩]
      have qC : decide (C < 0) = false := decide_eq_false (by omega)
      have qD : decide (100000 < C) = false := decide_eq_false (by omega)
      have t0 : Int.tdiv (C + X - 1) X = (C + X - 1) / X := Int.tdiv_eq_ediv_of_nonneg (by omega)
      have u0 : 0 ≤ (C + X - 1) / X := Int.ediv_nonneg (by omega) (by omega)
      have u1 : (C + X - 1) / X ≤ 200000 := by
        have h1 := Int.ediv_mul_le (C + X - 1) (show X ≠ 0 by omega)
        have h2 : (C + X - 1) / X * 1 ≤ (C + X - 1) / X * X := Int.mul_le_mul_of_nonneg_left (by omega) u0
        omega
      obtain ⟨hC0, hC1⟩ := hC
      have w0 : IntKind.i64.wrap (C + X) = C + X := by rw [IntKind.wrap_i64]; omega
      obtain ⟨Z, hZ⟩ : ∃ Z, C + X - 1 = Z := ⟨_, rfl⟩
      have w1 : IntKind.i64.wrap (C + X - 1) = Z := by rw [hZ, IntKind.wrap_i64]; omega
      rw [hZ] at t0 u0 u1 ⊢
      clear hZ
      generalize Z / X = Y at *
      have w2 : IntKind.i64.wrap Y = Y := by rw [IntKind.wrap_i64]; omega
      have z2 : (X != 0) = true := by simp; omega
      have z3 : ¬ X = 0 := hX
      go_enter Try.func15, Try.ntmps15
      go_wp2_with fail
      refine (HBF.out _ HR.out).mono ?_
      rintro e w1 ⟨rfl, hb1⟩
      have HBb := Lib.hid (HBa.out.trans (hb1.mono HBa.out.size))
      clear hb1 HBa HVa HR
      go_wp2
      go_ret
      exact ⟨rfl, HBb.out⟩
    · rw [if_neg (fun h => hC h.2)]
      by_cases hC1 : C < 0
      · have qC : decide (C < 0) = true := decide_eq_true hC1
        clear hC
        go_enter Try.func15, Try.ntmps15
        go_wp2_with fail
        refine (HBF.out _ HR.out).mono ?_
        rintro e w1 ⟨rfl, hb1⟩
        have HBb := Lib.hid (HBa.out.trans (hb1.mono HBa.out.size))
        clear hb1 HBa HVa HR
        go_wp2
        go_ret
        exact ⟨rfl, HBb.out⟩
      · have qC : decide (C < 0) = false := decide_eq_false hC1
        have qD : decide (100000 < C) = true := decide_eq_true (by omega)
        clear hC
        go_enter Try.func15, Try.ntmps15
        go_wp2_with fail
        refine (HBF.out _ HR.out).mono ?_
        rintro e w1 ⟨rfl, hb1⟩
        have HBb := Lib.hid (HBa.out.trans (hb1.mono HBa.out.size))
        clear hb1 HBa HVa HR
        go_wp2
        go_ret
        exact ⟨rfl, HBb.out⟩
end Go.Proofs.Ytfhpbgmnekhfeaa.Sheet
