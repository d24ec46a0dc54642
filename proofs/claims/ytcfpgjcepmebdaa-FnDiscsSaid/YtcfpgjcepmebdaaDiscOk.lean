/- What DiscOk returns, of the program and of the model (printed by wip/gen_disc1.py). -/
import Derived.Test.YtcfpgjcepmebdaaDiscRow
namespace Go.Proofs.Ytcfpgjcepmebdaa.Disc
open Go.ChangeShapes Go.WideShapes Go.ChangeAt Go.RowKit
open Go.Proofs.Ytcfpgjcepmebdaa.Ints
set_option linter.unusedVariables false

theorem all_snoc {l : List Int} {k : Nat} (hk : k < l.length) (h : ∀ j (hj : j < l.length), j < k → 0 ≤ l[j] ∧ l[j] ≤ 99) (hx : 0 ≤ l[k] ∧ l[k] ≤ 99) : ∀ j (hj : j < l.length), j < k + 1 → 0 ≤ l[j] ∧ l[j] ≤ 99 := by
  intro j hj h1
  by_cases e : j = k
  · subst e; exact hx
  · exact h j hj (by omega)
theorem all_mem {l : List Int} {k : Nat} (hk : l.length ≤ k) (h : ∀ j (hj : j < l.length), j < k → 0 ≤ l[j] ∧ l[j] ≤ 99) : ∀ x ∈ l, 0 ≤ x ∧ x ≤ 99 := by
  intro x hx
  obtain ⟨j, hj, rfl⟩ := List.mem_iff_getElem.1 hx
  exact h j hj (by omega)

set_option maxRecDepth 100000 in
set_option maxHeartbeats 2000000 in
theorem ok_impl (n m : Int) (a : Option Addr) (N c : Nat) (l : List Int) (w : World) (hl : l.length = N) (hn : N ≤ 1048576) (hr : IRow w a l) :
    Calls Try.prog 16 #[.agg #[.int .i64 n, .int .i64 m, .slice a N c]] w fun e w' => e = .returned (.bool (discB n m l)) ∧ Below w.heap.size w w' := by
  obtain ⟨W, hW, hA, hB, _⟩ := beginA w n m a N c l hr
  have HW := Lib.hid hW
  have HB := Lib.hid hB
  have HR := Lib.hid hA.row
  have HN := Lib.hid hl
  obtain ⟨k0, k1, k2⟩ := hA.var.cells
  clear hW hA hB hr hl
  by_cases h0 : n < 2
  · have e0 : decide (n < 2) = true := decide_eq_true h0
    rw [discB_no (show ¬ _ from fun h => by omega)]
    go_enter Try.func16, Try.ntmps16
    go_wp2_with fail
    rw [HW.out]
    go_wp2
    go_ret
    exact ⟨rfl, HB.out⟩
  · have e0 : decide (n < 2) = false := decide_eq_false h0
    by_cases h1 : 24 < n
    · have e1 : decide (24 < n) = true := decide_eq_true h1
      rw [discB_no (show ¬ _ from fun h => by omega)]
      go_enter Try.func16, Try.ntmps16
      go_wp2_with fail
      rw [HW.out]
      go_wp2
      go_ret
      exact ⟨rfl, HB.out⟩
    · have e1 : decide (24 < n) = false := decide_eq_false h1
      by_cases h2 : m < 0
      · have e2 : decide (m < 0) = true := decide_eq_true h2
        rw [discB_no (show ¬ _ from fun h => by omega)]
        go_enter Try.func16, Try.ntmps16
        go_wp2_with fail
        rw [HW.out]
        go_wp2
        go_ret
        exact ⟨rfl, HB.out⟩
      · have e2 : decide (m < 0) = false := decide_eq_false h2
        by_cases h3 : n ≤ m
        · have e3 : decide (n ≤ m) = true := decide_eq_true h3
          rw [discB_no (show ¬ _ from fun h => by omega)]
          go_enter Try.func16, Try.ntmps16
          go_wp2_with fail
          rw [HW.out]
          go_wp2
          go_ret
          exact ⟨rfl, HB.out⟩
        · have e3 : decide (n ≤ m) = false := decide_eq_false h3
          by_cases h4 : (N : Int) = n
          · subst h4
            have e4 : ((N : Int) != (N : Int)) = false := by simp
            go_enter Try.func16, Try.ntmps16
            go_wp2_with fail
            rw [HW.out]
            go_wp2_with fail
            go_loop [3, 34] (fun s i => ∃ k : Nat, k ≤ N ∧ i = .int .i64 (k : Int) ∧ Hid (∀ j (hj : j < l.length), j < k → 0 ≤ l[j] ∧ l[j] ≤ 99)) (fun _ i => N - (intOf i).toNat)
            case atStart => exact ⟨0, Nat.zero_le _, rfl, Lib.hid (fun j hj h => by omega)⟩
            case round =>
              obtain ⟨k, hk, rfl, HK⟩ := hrel
              by_cases hlt : k < N
              · have q0 : (0 : Int) ≤ (k : Int) := Int.natCast_nonneg _
                have q1 : (k : Int) < (N : Int) := by omega
                have hkl : k < l.length := by rw [HN.out]; exact hlt
                obtain ⟨g, rfl, hgs, hc⟩ := HR.out k hkl
                obtain ⟨x, hx⟩ : ∃ x, l[k] = x := ⟨_, rfl⟩
                rw [hx] at hc
                have HX := Lib.hid hx
                clear hx
                by_cases p0 : x < 0
                · have r0 : decide (x < 0) = true := decide_eq_true p0
                  have HRES := Lib.hid (discB_bad (n := (N : Int)) (m := m) hkl (by rw [HX.out]; omega))
                  go_wp2
                  go_ret
                  rw [HRES.out]
                  exact ⟨rfl, HB.out⟩
                · have r0 : decide (x < 0) = false := decide_eq_false p0
                  by_cases p1 : 99 < x
                  · have r1 : decide (99 < x) = true := decide_eq_true p1
                    have HRES := Lib.hid (discB_bad (n := (N : Int)) (m := m) hkl (by rw [HX.out]; omega))
                    go_wp2
                    go_ret
                    rw [HRES.out]
                    exact ⟨rfl, HB.out⟩
                  · have r1 : decide (99 < x) = false := decide_eq_false p1
                    have HK2 := Lib.hid (all_snoc hkl HK.out (by rw [HX.out]; omega))
                    clear HX hkl p0 p1
                    go_wp2
                    go_round
                    case rel => exact ⟨k + 1, by omega, by go_num, HK2⟩
                    case measure => simp [intOf]; omega
              · obtain rfl : k = N := by omega
                have HRES := Lib.hid (show discB (k : Int) m l = true from discB_iff.2 ⟨by have := HN.out; omega, all_mem (by have := HN.out; omega) HK.out⟩)
                go_wp2
                go_ret
                rw [HRES.out]
                exact ⟨rfl, HB.out⟩
          · have e4 : ((N : Int) != n) = true := by simp; exact h4
            rw [discB_no (show ¬ _ from fun h => by have := HN.out; omega)]
            go_enter Try.func16, Try.ntmps16
            go_wp2_with fail
            rw [HW.out]
            go_wp2
            go_ret
            exact ⟨rfl, HB.out⟩

set_option maxRecDepth 100000 in
set_option maxHeartbeats 2000000 in
theorem ok_spec (n m : Int) (a : Option Addr) (N c : Nat) (l : List Int) (w : World) (hl : l.length = N) (hn : N ≤ 1048576) (hr : IRow w a l) :
    Calls Try.prog 20 #[.agg #[.int .i64 n, .int .i64 m, .slice a N c]] w fun e w' => e = .returned (.bool (discB n m l)) ∧ Below w.heap.size w w' := by
  obtain ⟨W, hW, hA, hB, _⟩ := beginA w n m a N c l hr
  have HW := Lib.hid hW
  have HB := Lib.hid hB
  have HR := Lib.hid hA.row
  have HN := Lib.hid hl
  obtain ⟨k0, k1, k2⟩ := hA.var.cells
  clear hW hA hB hr hl
  by_cases h0 : 2 ≤ n ∧ n ≤ 24
  · have e0 : decide (2 ≤ n ∧ n ≤ 24) = true := decide_eq_true h0
    by_cases h1 : 0 ≤ m ∧ m ≤ n - 1
    · have e1 : decide (0 ≤ m ∧ m ≤ n - 1) = true := decide_eq_true h1
      by_cases h4 : (N : Int) = n
      · subst h4
        have e4 : ((N : Int) != (N : Int)) = false := by simp
        go_enter Try.func20, Try.ntmps20
        go_wp2_with fail
        rw [HW.out]
        go_wp2_with fail
        refine (in_at _ _ _ _).mono ?_
        rintro e w1 ⟨rfl, rfl⟩
        rw [e0]
        go_wp2_with fail
        refine (in_at _ _ _ _).mono ?_
        rintro e w1 ⟨rfl, rfl⟩
        rw [e1]
        go_wp2_with fail
        go_loop [3] (fun i => ∃ k : Nat, k ≤ N ∧ i = .int .i64 (k : Int) ∧ Hid (∀ j (hj : j < l.length), j < k → 0 ≤ l[j] ∧ l[j] ≤ 99)) (fun i => N - (intOf i).toNat)
        case atStart => exact ⟨0, Nat.zero_le _, rfl, Lib.hid (fun j hj h => by omega)⟩
        case round =>
          obtain ⟨k, hk, rfl, HK⟩ := hrel
          by_cases hlt : k < N
          · have q0 : (0 : Int) ≤ (k : Int) := Int.natCast_nonneg _
            have q1 : (k : Int) < (N : Int) := by omega
            have hkl : k < l.length := by rw [HN.out]; exact hlt
            obtain ⟨g, rfl, hgs, hc⟩ := HR.out k hkl
            obtain ⟨x, hx⟩ : ∃ x, l[k] = x := ⟨_, rfl⟩
            rw [hx] at hc
            have HX := Lib.hid hx
            clear hx
            by_cases p0 : 0 ≤ x ∧ x ≤ 99
            · have HK2 := Lib.hid (all_snoc hkl HK.out (by rw [HX.out]; exact p0))
              have r0 : decide (0 ≤ x ∧ x ≤ 99) = true := decide_eq_true p0
              clear HX hkl
              go_wp2_with fail
              refine (in_at _ _ _ _).mono ?_
              rintro e w1 ⟨rfl, rfl⟩
              rw [r0]
              clear p0 r0
              go_wp2
              go_round
              case rel => exact ⟨k + 1, by omega, by go_num, HK2⟩
              case measure => simp [intOf]; omega
            · have HRES := Lib.hid (discB_bad (n := (N : Int)) (m := m) hkl (by rw [HX.out]; exact p0))
              have r0 : decide (0 ≤ x ∧ x ≤ 99) = false := decide_eq_false p0
              go_wp2_with fail
              refine (in_at _ _ _ _).mono ?_
              rintro e w1 ⟨rfl, rfl⟩
              rw [r0]
              clear p0 r0
              go_wp2
              go_ret
              rw [HRES.out]
              exact ⟨rfl, HB.out⟩
          · obtain rfl : k = N := by omega
            have HRES := Lib.hid (show discB (k : Int) m l = true from discB_iff.2 ⟨by have := HN.out; omega, all_mem (by have := HN.out; omega) HK.out⟩)
            go_wp2
            go_ret
            rw [HRES.out]
            exact ⟨rfl, HB.out⟩
      · have e4 : ((N : Int) != n) = true := by simp; exact h4
        rw [discB_no (show ¬ _ from fun h => by have := HN.out; omega)]
        go_enter Try.func20, Try.ntmps20
        go_wp2_with fail
        rw [HW.out]
        go_wp2_with fail
        refine (in_at _ _ _ _).mono ?_
        rintro e w1 ⟨rfl, rfl⟩
        rw [e0]
        go_wp2_with fail
        refine (in_at _ _ _ _).mono ?_
        rintro e w1 ⟨rfl, rfl⟩
        rw [e1]
        go_wp2
        go_ret
        exact ⟨rfl, HB.out⟩
    · have e1 : decide (0 ≤ m ∧ m ≤ n - 1) = false := decide_eq_false h1
      rw [discB_no (show ¬ _ from fun h => by omega)]
      go_enter Try.func20, Try.ntmps20
      go_wp2_with fail
      rw [HW.out]
      go_wp2_with fail
      refine (in_at _ _ _ _).mono ?_
      rintro e w1 ⟨rfl, rfl⟩
      rw [e0]
      go_wp2_with fail
      refine (in_at _ _ _ _).mono ?_
      rintro e w1 ⟨rfl, rfl⟩
      rw [e1]
      go_wp2
      go_ret
      exact ⟨rfl, HB.out⟩
  · have e0 : decide (2 ≤ n ∧ n ≤ 24) = false := decide_eq_false h0
    rw [discB_no (show ¬ _ from fun h => by omega)]
    go_enter Try.func20, Try.ntmps20
    go_wp2_with fail
    rw [HW.out]
    go_wp2_with fail
    refine (in_at _ _ _ _).mono ?_
    rintro e w1 ⟨rfl, rfl⟩
    rw [e0]
    go_wp2
    go_ret
    exact ⟨rfl, HB.out⟩
end Go.Proofs.Ytcfpgjcepmebdaa.Disc
