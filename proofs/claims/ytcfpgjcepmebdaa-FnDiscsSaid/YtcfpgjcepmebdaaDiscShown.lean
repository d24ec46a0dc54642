/- What hasWindow, shownAfter and ShownAt return, of the program and of the model. -/
import Derived.Test.YtcfpgjcepmebdaaDiscOk
namespace Go.Proofs.Ytcfpgjcepmebdaa.Disc
open Go.ChangeShapes Go.WideShapes Go.ChangeAt Go.RowKit
open Go.Proofs.Ytcfpgjcepmebdaa.Ints
set_option linter.unusedVariables false

set_option maxRecDepth 100000 in
set_option maxHeartbeats 2000000 in
theorem has_impl (n m x : Int) (a : Option Addr) (N c : Nat) (l : List Int) (w : World) (hl : l.length = N) (hn : N ≤ 1048576) (hr : IRow w a l) :
    Calls Try.prog 34 #[.agg #[.int .i64 n, .int .i64 m, .slice a N c], .int .i64 x] w fun e w' => e = .returned (.bool (discB n m l && inB n x)) ∧ Below w.heap.size w w' := by
  obtain ⟨W, hW, hA, hB, _⟩ := beginA w n m a N c l hr
  have HW := Lib.hid hW
  have HB := Lib.hid hB
  have HA := Lib.hid hA
  have HOK := Lib.hid (fun w h => ok_impl n m a N c l w hl hn h)
  obtain ⟨k0, k1, k2⟩ := hA.var.cells
  clear hW hA hB hr hl
  unfold inB
  generalize discB n m l = ok at *
  cases ok with
  | false =>
    go_enter Try.func34, Try.ntmps34
    go_wp2_with fail
    rw [HW.out]
    go_wp2_with fail
    refine (HOK.out _ HA.out.row).mono ?_
    rintro e w1 ⟨rfl, hb⟩
    have HB1 := Lib.hid (HB.out.trans (hb.mono HB.out.size))
    clear hb
    go_wp2
    go_ret
    exact ⟨rfl, HB1.out⟩
  | true =>
    by_cases h0 : 0 ≤ x
    · have e0 : decide (0 ≤ x) = true := decide_eq_true h0
      rw [show (true && decide (0 ≤ x ∧ x < n)) = decide (x < n) by rw [Bool.true_and]; exact decide_eq_decide.2 ⟨fun h => h.2, fun h => ⟨h0, h⟩⟩]
      go_enter Try.func34, Try.ntmps34
      go_wp2_with fail
      rw [HW.out]
      go_wp2_with fail
      refine (HOK.out _ HA.out.row).mono ?_
      rintro e w1 ⟨rfl, hb⟩
      have HB1 := Lib.hid (HB.out.trans (hb.mono HB.out.size))
      obtain ⟨m0, m1, m2⟩ := (HA.out.below hb).var.cells
      clear hb k0 k1 k2
      go_wp2
      go_ret
      exact ⟨rfl, HB1.out⟩
    · have e0 : decide (0 ≤ x) = false := decide_eq_false h0
      rw [show (true && decide (0 ≤ x ∧ x < n)) = false by rw [Bool.true_and]; exact decide_eq_false fun h => h0 h.1]
      go_enter Try.func34, Try.ntmps34
      go_wp2_with fail
      rw [HW.out]
      go_wp2_with fail
      refine (HOK.out _ HA.out.row).mono ?_
      rintro e w1 ⟨rfl, hb⟩
      have HB1 := Lib.hid (HB.out.trans (hb.mono HB.out.size))
      clear hb k0 k1 k2
      go_wp2
      go_ret
      exact ⟨rfl, HB1.out⟩

set_option maxRecDepth 100000 in
set_option maxHeartbeats 2000000 in
theorem after_impl (N M X T : Nat) (h2 : 0 < N) (h24 : N ≤ 1000) (hM : M ≤ 1000) (hX : X ≤ 1000) (hT : T ≤ 1000) (a : Option Addr) (c : Nat) (l : List Int) (w : World) (hl : l.length = N) (hr : IRow w a l) :
    Calls Try.prog 35 #[.agg #[.int .i64 (N : Int), .int .i64 (M : Int), .slice a N c], .int .i64 (X : Int), .int .i64 (T : Int)] w fun e w' => e = .returned (.int .i64 (pc l (M + X + T))) ∧ Below w.heap.size w w' := by
  obtain ⟨W, hW, hA, hB, _⟩ := beginA w (N : Int) (M : Int) a N c l hr
  obtain ⟨r, hrl, ht, hv⟩ := place_at l (by omega) (M + X + T)
  obtain ⟨g, rfl, hgs, hc⟩ := hA.row r hrl
  rw [hv hrl] at hc
  obtain ⟨k0, k1, k2⟩ := hA.var.cells
  rw [hl] at ht hrl
  obtain ⟨S1, hS1⟩ : ∃ S1, (M : Int) + (X : Int) = S1 := ⟨_, rfl⟩
  obtain ⟨S2, hS2⟩ : ∃ S2, S1 + (T : Int) = S2 := ⟨_, rfl⟩
  have e1 : IntKind.i64.wrap ((M : Int) + (X : Int)) = S1 := by rw [hS1, IntKind.wrap_i64]; omega
  have e2 : IntKind.i64.wrap (S1 + (T : Int)) = S2 := by rw [hS2, IntKind.wrap_i64]; omega
  rw [show ((M + X + T : Nat) : Int) = S2 by omega] at ht
  generalize pc l (M + X + T) = v at *
  have HW := Lib.hid hW
  have HB := Lib.hid hB
  have hz : ((N : Int) == 0) = false := by simp; omega
  have hz2 : ((N : Int) != 0) = true := by simp; omega
  have hz3 : ¬ (N : Int) = 0 := by omega
  have q0 : (0 : Int) ≤ (r : Int) := Int.natCast_nonneg _
  have q1 : (r : Int) < (N : Int) := by omega
  have e3 : IntKind.i64.wrap (r : Int) = (r : Int) := by rw [IntKind.wrap_i64]; omega
  clear hW hA hB hr hl hv hS1 hS2
  go_enter Try.func35, Try.ntmps35
  go_wp2_with fail
  rw [HW.out]
  go_quiet (fail)
  go_wp2
  go_ret
  exact ⟨rfl, HB.out.trans ((drewN_below _ _).mono HB.out.size)⟩
end Go.Proofs.Ytcfpgjcepmebdaa.Disc
