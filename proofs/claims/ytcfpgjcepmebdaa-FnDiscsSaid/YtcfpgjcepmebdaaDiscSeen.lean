/- What ShownAt and TurnsToShow return, of the program and of the model (printed by wip/gen_disc2.py). -/
import Derived.Test.YtcfpgjcepmebdaaDiscShown
namespace Go.Proofs.Ytcfpgjcepmebdaa.Disc
open Go.ChangeShapes Go.WideShapes Go.ChangeAt Go.RowKit
open Go.Proofs.Ytcfpgjcepmebdaa.Ints
set_option linter.unusedVariables false

/-- A valid disc and one of its windows, as natural numbers. -/
theorem nats_of {n m x : Int} {N : Nat} {l : List Int} (hl : l.length = N) (h : discB n m l = true) : 2 ≤ N ∧ N ≤ 24 ∧ n = (N : Int) ∧ ∃ M : Nat, M < N ∧ m = (M : Int) := by
  have hd := (discB_iff.1 h).1
  exact ⟨by omega, by omega, by omega, m.toNat, by omega, by omega⟩
theorem in_nat {n x : Int} (h : inB n x = true) : ∃ X : Nat, (X : Int) < n ∧ x = (X : Int) := by
  unfold inB at h
  simp only [decide_eq_true_eq] at h
  exact ⟨x.toNat, by omega, by omega⟩
theorem in_bot {n x : Int} : decide (0 ≤ x ∧ x ≤ n - 1) = inB n x := by
  unfold inB
  exact decide_eq_decide.2 ⟨fun h => by omega, fun h => by omega⟩
theorem pc_row {w : World} {a : Option Addr} {l : List Int} (hr : IRow w a l) (h0 : 0 < l.length) (s : Nat) : ∃ (r g : Nat), r < l.length ∧ Int.tmod (s : Int) (l.length : Int) = (r : Int) ∧ a = some ⟨g, 0, none⟩ ∧ g < w.heap.size ∧ w.cell? ⟨g, r, none⟩ = some (.int .i64 (pc l s)) := by
  obtain ⟨r, hrl, ht, hv⟩ := place_at l h0 s
  obtain ⟨g, e, hgs, hc⟩ := hr r hrl
  rw [hv hrl] at hc
  exact ⟨r, g, hrl, ht, e, hgs, hc⟩

set_option maxRecDepth 100000 in
set_option maxHeartbeats 2000000 in
theorem shown_impl (n m x : Int) (a : Option Addr) (N c : Nat) (l : List Int) (w : World) (hl : l.length = N) (hn : N ≤ 1048576) (hr : IRow w a l) :
    Calls Try.prog 17 #[.agg #[.int .i64 n, .int .i64 m, .slice a N c], .int .i64 x] w fun e w' => e = .returned (.int .i64 (shownV n m l x)) ∧ Below w.heap.size w w' := by
  obtain ⟨W, hW, hA, hB, _⟩ := beginA w n m a N c l hr
  have HW := Lib.hid hW
  have HB := Lib.hid hB
  have HA := Lib.hid hA
  have HN := Lib.hid hl
  have HH := Lib.hid (fun w h => has_impl n m x a N c l w hl hn h)
  clear hW hA hB hr
  obtain ⟨k0, k1, k2⟩ := HA.out.var.cells
  cases hok : discB n m l && inB n x with
  | false =>
    rw [hok] at HH
    rw [show shownV n m l x = -1 from by unfold shownV; rw [hok]; rfl]
    clear hok
    go_enter Try.func17, Try.ntmps17
    go_wp2_with fail
    rw [HW.out]
    go_wp2_with fail
    refine (HH.out _ HA.out.row).mono ?_
    rintro e w1 ⟨rfl, hb⟩
    have HA := Lib.hid (HA.out.below hb)
    have HB := Lib.hid (HB.out.trans (hb.mono HB.out.size))
    clear hb
    clear k0 k1 k2
    obtain ⟨k0, k1, k2⟩ := HA.out.var.cells
    go_wp2
    go_ret
    exact ⟨rfl, HB.out⟩
  | true =>
    rw [hok] at HH
    have ho := Bool.and_eq_true_iff.1 hok
    obtain ⟨hN2, hN24, rfl, M, hM, rfl⟩ := nats_of (x := x) hl ho.1
    obtain ⟨X, hX, rfl⟩ := in_nat ho.2
    rw [show shownV (N : Int) (M : Int) l (X : Int) = pc l (M + X + 0) from by unfold shownV; rw [hok]; simp]
    have HAF := Lib.hid (fun w h => after_impl N M X 0 (by omega) (by omega) (by omega) (by omega) (by omega) a c l w hl h)
    generalize pc l (M + X + 0) = v at *
    clear hok ho
    go_enter Try.func17, Try.ntmps17
    go_wp2_with fail
    rw [HW.out]
    go_wp2_with fail
    refine (HH.out _ HA.out.row).mono ?_
    rintro e w1 ⟨rfl, hb⟩
    have HA := Lib.hid (HA.out.below hb)
    have HB := Lib.hid (HB.out.trans (hb.mono HB.out.size))
    clear hb
    clear k0 k1 k2
    obtain ⟨k0, k1, k2⟩ := HA.out.var.cells
    go_wp2_with fail
    refine (HAF.out _ HA.out.row).mono ?_
    rintro e w1 ⟨rfl, hb⟩
    have HA := Lib.hid (HA.out.below hb)
    have HB := Lib.hid (HB.out.trans (hb.mono HB.out.size))
    clear hb
    clear k0 k1 k2
    obtain ⟨k0, k1, k2⟩ := HA.out.var.cells
    go_wp2
    go_ret
    exact ⟨rfl, HB.out⟩

set_option maxRecDepth 100000 in
set_option maxHeartbeats 2000000 in
theorem show_impl (n m x q : Int) (a : Option Addr) (N c : Nat) (l : List Int) (w : World) (hl : l.length = N) (hn : N ≤ 1048576) (hr : IRow w a l) :
    Calls Try.prog 18 #[.agg #[.int .i64 n, .int .i64 m, .slice a N c], .int .i64 x, .int .i64 q] w fun e w' => e = .returned (.int .i64 (showV n m l x q)) ∧ Below w.heap.size w w' := by
  obtain ⟨W, hW, hA, hB, _⟩ := beginA w n m a N c l hr
  have HW := Lib.hid hW
  have HB := Lib.hid hB
  have HA := Lib.hid hA
  have HN := Lib.hid hl
  have HH := Lib.hid (fun w h => has_impl n m x a N c l w hl hn h)
  clear hW hA hB hr
  obtain ⟨k0, k1, k2⟩ := HA.out.var.cells
  cases hok : discB n m l && inB n x with
  | false =>
    rw [hok] at HH
    rw [show showV n m l x q = -1 from by unfold showV; rw [hok]; rfl]
    clear hok
    go_enter Try.func18, Try.ntmps18
    go_wp2_with fail
    rw [HW.out]
    go_wp2_with fail
    refine (HH.out _ HA.out.row).mono ?_
    rintro e w1 ⟨rfl, hb⟩
    have HA := Lib.hid (HA.out.below hb)
    have HB := Lib.hid (HB.out.trans (hb.mono HB.out.size))
    clear hb
    clear k0 k1 k2
    obtain ⟨k0, k1, k2⟩ := HA.out.var.cells
    go_wp2
    go_ret
    exact ⟨rfl, HB.out⟩
  | true =>
    rw [hok] at HH
    have ho := Bool.and_eq_true_iff.1 hok
    obtain ⟨hN2, hN24, rfl, M, hM, rfl⟩ := nats_of (x := x) hl ho.1
    obtain ⟨X, hX, rfl⟩ := in_nat ho.2
    have HRES := Lib.hid (show showV (N : Int) (M : Int) l (X : Int) q = hitV (fun t => decide (pc l (M + X + t) = q)) N from by unfold showV; rw [hok, hl]; simp)
    rw [HRES.out]
    clear HRES hok ho
    go_enter Try.func18, Try.ntmps18
    go_wp2_with fail
    rw [HW.out]
    go_wp2_with fail
    refine (HH.out _ HA.out.row).mono ?_
    rintro e w1 ⟨rfl, hb⟩
    have HA := Lib.hid (HA.out.below hb)
    have HB := Lib.hid (HB.out.trans (hb.mono HB.out.size))
    clear hb
    clear k0 k1 k2
    obtain ⟨k0, k1, k2⟩ := HA.out.var.cells
    go_wp2_with fail
    go_loopw [7, 14] (fun s i wr => ∃ k : Nat, k ≤ N ∧ i = .int .i64 (k : Int) ∧ Hid (∀ j, j < k → decide (pc l (M + X + j) = q) = false) ∧ Hid (At wr w.heap.size (N : Int) (M : Int) a N c l) ∧ Hid (Below w.heap.size w wr)) (fun _ i _ => N - (intOf i).toNat)
    case atStart => exact ⟨0, Nat.zero_le _, rfl, Lib.hid (fun j h => by omega), HA, HB⟩
    case round =>
      obtain ⟨k, hk, rfl, HK, HA, HB⟩ := hrel
      obtain ⟨k0, k1, k2⟩ := HA.out.var.cells
      by_cases hlt : k < N
      · have q0 : (0 : Int) ≤ (k : Int) := Int.natCast_nonneg _
        have q1 : (k : Int) < (N : Int) := by omega
        have HAF := Lib.hid (after_impl N M X k (by omega) (by omega) (by omega) (by omega) (by omega) a c l _ HN.out HA.out.row)
        obtain ⟨v, hv⟩ : ∃ v, pc l (M + X + k) = v := ⟨_, rfl⟩
        rw [hv] at HAF
        by_cases he : v = q
        · have r0 : (v == q) = true := by simpa using he
          have HRES := Lib.hid (hit_at (P := fun t => decide (pc l (M + X + t) = q)) hlt (by simp [hv, he]) HK.out)
          clear hv he
          go_wp2_with fail
          refine (HAF.out).mono ?_
          rintro e w2 ⟨rfl, hb⟩
          have HB := Lib.hid (HB.out.trans (hb.mono HB.out.size))
          clear hb k0 k1 k2
          go_wp2
          go_ret
          rw [HRES.out]
          exact ⟨rfl, HB.out⟩
        · have r0 : (v == q) = false := by simpa using he
          have HK2 : Hid (∀ j, j < k + 1 → decide (pc l (M + X + j) = q) = false) := Lib.hid (fun j hj => by
            by_cases ej : j = k
            · subst ej; simp [hv, he]
            · exact HK.out j (by omega))
          clear hv he
          go_wp2_with fail
          refine (HAF.out).mono ?_
          rintro e w2 ⟨rfl, hb⟩
          have HB := Lib.hid (HB.out.trans (hb.mono HB.out.size))
          have HA := Lib.hid (HA.out.below hb)
          clear hb k0 k1 k2
          go_wp2
          go_roundw
          case rel => exact ⟨k + 1, by omega, by go_num, HK2, HA, HB⟩
          case measure => simp [intOf]; omega
      · obtain rfl : k = N := by omega
        have HRES := Lib.hid (hit_no (P := fun t => decide (pc l (M + X + t) = q)) HK.out)
        go_wp2
        go_ret
        rw [HRES.out]
        exact ⟨rfl, HB.out⟩

set_option maxRecDepth 100000 in
set_option maxHeartbeats 2000000 in
theorem shown_spec (n m x : Int) (a : Option Addr) (N c : Nat) (l : List Int) (w : World) (hl : l.length = N) (hn : N ≤ 1048576) (hr : IRow w a l) :
    Calls Try.prog 26 #[.agg #[.int .i64 n, .int .i64 m, .slice a N c], .int .i64 x] w fun e w' => e = .returned (.int .i64 (shownV n m l x)) ∧ Below w.heap.size w w' := by
  obtain ⟨W, hW, hA, hB, _⟩ := beginA w n m a N c l hr
  have HW := Lib.hid hW
  have HB := Lib.hid hB
  have HA := Lib.hid hA
  have HN := Lib.hid hl
  have HH := Lib.hid (fun w h => ok_spec n m a N c l w hl hn h)
  clear hW hA hB hr
  obtain ⟨k0, k1, k2⟩ := HA.out.var.cells
  cases hok : discB n m l with
  | false =>
    rw [hok] at HH
    rw [show shownV n m l x = -1 from by unfold shownV; rw [hok]; rfl]
    clear hok
    go_enter Try.func26, Try.ntmps26
    go_wp2_with fail
    rw [HW.out]
    go_wp2_with fail
    refine (HH.out _ HA.out.row).mono ?_
    rintro e w1 ⟨rfl, hb⟩
    have HA := Lib.hid (HA.out.below hb)
    have HB := Lib.hid (HB.out.trans (hb.mono HB.out.size))
    clear hb
    clear k0 k1 k2
    obtain ⟨k0, k1, k2⟩ := HA.out.var.cells
    go_wp2
    go_ret
    exact ⟨rfl, HB.out⟩
  | true =>
    rw [hok] at HH
    obtain ⟨hN2, hN24, rfl, M, hM, rfl⟩ := nats_of (x := x) hl hok
    cases hin : inB (N : Int) x with
    | false =>
      rw [show shownV (N : Int) (M : Int) l x = -1 from by unfold shownV; rw [hok, hin]; rfl]
      rw [← in_bot] at hin
      clear hok
      go_enter Try.func26, Try.ntmps26
      go_wp2_with fail
      rw [HW.out]
      go_wp2_with fail
      refine (HH.out _ HA.out.row).mono ?_
      rintro e w1 ⟨rfl, hb⟩
      have HA := Lib.hid (HA.out.below hb)
      have HB := Lib.hid (HB.out.trans (hb.mono HB.out.size))
      clear hb
      clear k0 k1 k2
      obtain ⟨k0, k1, k2⟩ := HA.out.var.cells
      go_wp2_with fail
      refine (in_at _ _ _ _).mono ?_
      rintro e w2 ⟨rfl, rfl⟩
      rw [hin]
      clear hin
      go_wp2
      go_ret
      exact ⟨rfl, HB.out⟩
    | true =>
      obtain ⟨X, hX, rfl⟩ := in_nat hin
      have hok2 : (discB (N : Int) (M : Int) l && inB (N : Int) (X : Int)) = true := by rw [hok, hin]; rfl
      rw [← in_bot] at hin
      rw [show shownV (N : Int) (M : Int) l (X : Int) = pc l (M + X) from by unfold shownV; rw [hok2]; simp]
      obtain ⟨S1, hS1⟩ : ∃ S1, (M : Int) + (X : Int) = S1 := ⟨_, rfl⟩
      have e1 : IntKind.i64.wrap ((M : Int) + (X : Int)) = S1 := by rw [hS1, IntKind.wrap_i64]; omega
      have hz : ((N : Int) == 0) = false := by simp; omega
      have hz2 : ((N : Int) != 0) = true := by simp; omega
      have hz3 : ¬ (N : Int) = 0 := by omega
      clear hok hok2
      go_enter Try.func26, Try.ntmps26
      go_wp2_with fail
      rw [HW.out]
      go_wp2_with fail
      refine (HH.out _ HA.out.row).mono ?_
      rintro e w1 ⟨rfl, hb⟩
      have HA := Lib.hid (HA.out.below hb)
      have HB := Lib.hid (HB.out.trans (hb.mono HB.out.size))
      clear hb
      clear k0 k1 k2
      obtain ⟨k0, k1, k2⟩ := HA.out.var.cells
      go_wp2_with fail
      refine (in_at _ _ _ _).mono ?_
      rintro e w2 ⟨rfl, rfl⟩
      rw [hin]
      clear hin
      obtain ⟨r, g, hrl, ht, rfl, hgs, hc⟩ := pc_row HA.out.row (by have := HN.out; omega) (M + X)
      rw [HN.out] at ht hrl
      rw [show ((M + X : Nat) : Int) = S1 by omega] at ht
      obtain ⟨v, hv⟩ : ∃ v, pc l (M + X) = v := ⟨_, rfl⟩
      rw [hv] at hc
      have HV := Lib.hid hv
      clear hv
      have q0 : (0 : Int) ≤ (r : Int) := Int.natCast_nonneg _
      have q1 : (r : Int) < (N : Int) := by omega
      have e3 : IntKind.i64.wrap (r : Int) = (r : Int) := by rw [IntKind.wrap_i64]; omega
      clear hS1 hgs
      go_wp2_with fail
      go_quiet (fail)
      go_wp2
      go_ret
      rw [HV.out]
      exact ⟨rfl, HB.out.trans ((drewN_below _ _).mono HB.out.size)⟩

set_option maxRecDepth 100000 in
set_option maxHeartbeats 2000000 in
theorem show_spec (n m x q : Int) (a : Option Addr) (N c : Nat) (l : List Int) (w : World) (hl : l.length = N) (hn : N ≤ 1048576) (hr : IRow w a l) :
    Calls Try.prog 27 #[.agg #[.int .i64 n, .int .i64 m, .slice a N c], .int .i64 x, .int .i64 q] w fun e w' => e = .returned (.int .i64 (showV n m l x q)) ∧ Below w.heap.size w w' := by
  obtain ⟨W, hW, hA, hB, _⟩ := beginA w n m a N c l hr
  have HW := Lib.hid hW
  have HB := Lib.hid hB
  have HA := Lib.hid hA
  have HN := Lib.hid hl
  have HH := Lib.hid (fun w h => ok_spec n m a N c l w hl hn h)
  clear hW hA hB hr
  obtain ⟨k0, k1, k2⟩ := HA.out.var.cells
  cases hok : discB n m l with
  | false =>
    rw [hok] at HH
    rw [show showV n m l x q = -1 from by unfold showV; rw [hok]; rfl]
    clear hok
    go_enter Try.func27, Try.ntmps27
    go_wp2_with fail
    rw [HW.out]
    go_wp2_with fail
    refine (HH.out _ HA.out.row).mono ?_
    rintro e w1 ⟨rfl, hb⟩
    have HA := Lib.hid (HA.out.below hb)
    have HB := Lib.hid (HB.out.trans (hb.mono HB.out.size))
    clear hb
    clear k0 k1 k2
    obtain ⟨k0, k1, k2⟩ := HA.out.var.cells
    go_wp2
    go_ret
    exact ⟨rfl, HB.out⟩
  | true =>
    rw [hok] at HH
    obtain ⟨hN2, hN24, rfl, M, hM, rfl⟩ := nats_of (x := x) hl hok
    cases hin : inB (N : Int) x with
    | false =>
      rw [show showV (N : Int) (M : Int) l x q = -1 from by unfold showV; rw [hok, hin]; rfl]
      rw [← in_bot] at hin
      clear hok
      go_enter Try.func27, Try.ntmps27
      go_wp2_with fail
      rw [HW.out]
      go_wp2_with fail
      refine (HH.out _ HA.out.row).mono ?_
      rintro e w1 ⟨rfl, hb⟩
      have HA := Lib.hid (HA.out.below hb)
      have HB := Lib.hid (HB.out.trans (hb.mono HB.out.size))
      clear hb
      clear k0 k1 k2
      obtain ⟨k0, k1, k2⟩ := HA.out.var.cells
      go_wp2_with fail
      refine (in_at _ _ _ _).mono ?_
      rintro e w2 ⟨rfl, rfl⟩
      rw [hin]
      clear hin
      go_wp2
      go_ret
      exact ⟨rfl, HB.out⟩
    | true =>
      obtain ⟨X, hX, rfl⟩ := in_nat hin
      have hok2 : (discB (N : Int) (M : Int) l && inB (N : Int) (X : Int)) = true := by rw [hok, hin]; rfl
      rw [← in_bot] at hin
      have HRES := Lib.hid (show showV (N : Int) (M : Int) l (X : Int) q = hitV (fun t => decide (pc l (M + X + t) = q)) N from by unfold showV; rw [hok2, hl]; simp)
      rw [HRES.out]
      clear HRES
      obtain ⟨S1, hS1⟩ : ∃ S1, (M : Int) + (X : Int) = S1 := ⟨_, rfl⟩
      have e1 : IntKind.i64.wrap ((M : Int) + (X : Int)) = S1 := by rw [hS1, IntKind.wrap_i64]; omega
      have hz : ((N : Int) == 0) = false := by simp; omega
      have hz2 : ((N : Int) != 0) = true := by simp; omega
      have hz3 : ¬ (N : Int) = 0 := by omega
      clear hok hok2
      go_enter Try.func27, Try.ntmps27
      go_wp2_with fail
      rw [HW.out]
      go_wp2_with fail
      refine (HH.out _ HA.out.row).mono ?_
      rintro e w1 ⟨rfl, hb⟩
      have HA := Lib.hid (HA.out.below hb)
      have HB := Lib.hid (HB.out.trans (hb.mono HB.out.size))
      clear hb
      clear k0 k1 k2
      obtain ⟨k0, k1, k2⟩ := HA.out.var.cells
      go_wp2_with fail
      refine (in_at _ _ _ _).mono ?_
      rintro e w2 ⟨rfl, rfl⟩
      rw [hin]
      clear hin
      go_wp2_with fail
      go_loopw [7] (fun i wr => ∃ k : Nat, k ≤ N ∧ i = .int .i64 (k : Int) ∧ Hid (∀ j, j < k → decide (pc l (M + X + j) = q) = false) ∧ Hid (At wr w.heap.size (N : Int) (M : Int) a N c l) ∧ Hid (Below w.heap.size w wr)) (fun i _ => N - (intOf i).toNat)
      case atStart => exact ⟨0, Nat.zero_le _, rfl, Lib.hid (fun j h => by omega), HA, HB⟩
      case round =>
        obtain ⟨k, hk, rfl, HK, HA, HB⟩ := hrel
        obtain ⟨k0, k1, k2⟩ := HA.out.var.cells
        by_cases hlt : k < N
        · have q0 : (0 : Int) ≤ (k : Int) := Int.natCast_nonneg _
          have q1 : (k : Int) < (N : Int) := by omega
          obtain ⟨r, g, hrl, ht, rfl, hgs, hc⟩ := pc_row HA.out.row (by have := HN.out; omega) (M + X + k)
          obtain ⟨S2, hS2⟩ : ∃ S2, S1 + (k : Int) = S2 := ⟨_, rfl⟩
          have e2 : IntKind.i64.wrap (S1 + (k : Int)) = S2 := by rw [hS2, IntKind.wrap_i64]; omega
          rw [HN.out] at ht hrl
          rw [show ((M + X + k : Nat) : Int) = S2 by omega] at ht
          have q2 : (0 : Int) ≤ (r : Int) := Int.natCast_nonneg _
          have q3 : (r : Int) < (N : Int) := by omega
          have e3 : IntKind.i64.wrap (r : Int) = (r : Int) := by rw [IntKind.wrap_i64]; omega
          obtain ⟨v, hv⟩ : ∃ v, pc l (M + X + k) = v := ⟨_, rfl⟩
          rw [hv] at hc
          have HS := Lib.hid hS1
          clear hS2 hS1 hgs
          by_cases he : v = q
          · have r0 : (v == q) = true := by simpa using he
            have HRES := Lib.hid (hit_at (P := fun t => decide (pc l (M + X + t) = q)) hlt (by simp [hv, he]) HK.out)
            clear hv he
            go_wp2_with fail
            go_quiet (fail)
            go_wp2
            go_ret
            rw [HRES.out]
            exact ⟨rfl, HB.out.trans ((drewN_below _ _).mono HB.out.size)⟩
          · have r0 : (v == q) = false := by simpa using he
            have HK2 : Hid (∀ j, j < k + 1 → decide (pc l (M + X + j) = q) = false) := Lib.hid (fun j hj => by
              by_cases ej : j = k
              · subst ej; simp [hv, he]
              · exact HK.out j (by omega))
            clear hv he
            go_wp2_with fail
            go_quiet (fail)
            go_wp2
            go_roundw
            case rel => exact ⟨k + 1, by omega, by go_num, HK2, Lib.hid (HA.out.below (drewN_below _ _)), Lib.hid (HB.out.trans ((drewN_below _ _).mono HB.out.size))⟩
            case measure => simp [intOf]; omega
        · obtain rfl : k = N := by omega
          have HRES := Lib.hid (hit_no (P := fun t => decide (pc l (M + X + t) = q)) HK.out)
          clear hS1
          go_wp2
          go_ret
          rw [HRES.out]
          exact ⟨rfl, HB.out⟩
end Go.Proofs.Ytcfpgjcepmebdaa.Disc
