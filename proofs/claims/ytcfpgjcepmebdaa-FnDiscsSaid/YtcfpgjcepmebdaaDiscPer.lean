/- What PeriodOf returns, of the program and of the model (printed by wip/gen_disc3.py). -/
import Derived.Test.YtcfpgjcepmebdaaDiscSeen
namespace Go.Proofs.Ytcfpgjcepmebdaa.Disc
open Go.ChangeShapes Go.WideShapes Go.ChangeAt Go.RowKit
open Go.Proofs.Ytcfpgjcepmebdaa.Ints
set_option linter.unusedVariables false

/-- The first j pictures repeat after k sectors, and k divides their number. -/
def sameB (l : List Int) (k j : Nat) : Bool := decide (l.length % k = 0) && decide (∀ i, i < j → pc l i = pc l (i + k))
theorem same_zero (l : List Int) (k : Nat) : sameB l k 0 = decide (l.length % k = 0) := by
  unfold sameB
  simp
theorem same_yes {l : List Int} {k j : Nat} (h : sameB l k j = true) (he : pc l j = pc l (j + k)) : sameB l k (j + 1) = true := by
  unfold sameB at *
  simp only [Bool.and_eq_true, decide_eq_true_eq] at *
  refine ⟨h.1, fun i hi => ?_⟩
  by_cases e : i = j
  · subst e; exact he
  · exact h.2 i (by omega)
theorem same_no {l : List Int} {k j : Nat} (he : ¬ pc l j = pc l (j + k)) : sameB l k (j + 1) = false := by
  cases hb : sameB l k (j + 1) with
  | false => rfl
  | true =>
    unfold sameB at hb
    simp only [Bool.and_eq_true, decide_eq_true_eq] at hb
    exact absurd (hb.2 j (by omega)) he
theorem same_off {l : List Int} {k j : Nat} (h : sameB l k j = false) : sameB l k (j + 1) = false := by
  cases hb : sameB l k (j + 1) with
  | false => rfl
  | true =>
    unfold sameB at h hb
    simp only [Bool.and_eq_true, decide_eq_true_eq] at hb
    rw [Bool.and_eq_false_iff] at h
    rcases h with h | h
    · exact absurd hb.1 (of_decide_eq_false h)
    · exact absurd (fun i hi => hb.2 i (by omega)) (of_decide_eq_false h)
theorem same_end {l : List Int} {k : Nat} : sameB l k l.length = (decide (l.length % k = 0) && repB l k) := rfl

set_option maxRecDepth 100000 in
set_option maxHeartbeats 2000000 in
theorem rep_impl (N M P : Nat) (h2 : 0 < N) (h24 : N ≤ 1000) (hP : P ≤ 1000) (a : Option Addr) (c : Nat) (l : List Int) (w : World) (hl : l.length = N) (hr : IRow w a l) :
    Calls Try.prog 32 #[.agg #[.int .i64 (N : Int), .int .i64 (M : Int), .slice a N c], .int .i64 (P : Int)] w fun e w' => e = .returned (.bool (repB l P)) ∧ Below w.heap.size w w' := by
  obtain ⟨W, hW, hA, hB, _⟩ := beginA w (N : Int) (M : Int) a N c l hr
  have HW := Lib.hid hW
  have HB := Lib.hid hB
  have HA := Lib.hid hA
  have HN := Lib.hid hl
  obtain ⟨k0, k1, k2⟩ := HA.out.var.cells
  have hz : ((N : Int) == 0) = false := by simp; omega
  have hz2 : ((N : Int) != 0) = true := by simp; omega
  have hz3 : ¬ (N : Int) = 0 := by omega
  clear hW hA hB hr
  go_enter Try.func32, Try.ntmps32
  go_wp2_with fail
  rw [HW.out]
  go_wp2_with fail
  go_loopw [5, 8] (fun s i wr => ∃ k : Nat, k ≤ N ∧ i = .int .i64 (k : Int) ∧ Hid (∀ j, j < k → pc l j = pc l (j + P)) ∧ Hid (At wr w.heap.size (N : Int) (M : Int) a N c l) ∧ Hid (Below w.heap.size w wr)) (fun _ i _ => N - (intOf i).toNat)
  case atStart => exact ⟨0, Nat.zero_le _, rfl, Lib.hid (fun j h => by omega), HA, HB⟩
  case round =>
    clear HA HB k0 k1 k2 HW
    obtain ⟨k, hk, rfl, HK, HA, HB⟩ := hrel
    obtain ⟨k0, k1, k2⟩ := HA.out.var.cells
    by_cases hlt : k < N
    · have q0 : (0 : Int) ≤ (k : Int) := Int.natCast_nonneg _
      have q1 : (k : Int) < (N : Int) := by omega
      have hkl : k < l.length := by rw [HN.out]; exact hlt
      obtain ⟨g2, e2, hgs2, hc2⟩ := HA.out.row k hkl
      rw [← pc_get hkl] at hc2
      obtain ⟨r, g, hrl, ht, rfl, hgs, hc⟩ := pc_row HA.out.row (by have := HN.out; omega) (k + P)
      cases e2
      obtain ⟨S, hS⟩ : ∃ S, (k : Int) + (P : Int) = S := ⟨_, rfl⟩
      have e1 : IntKind.i64.wrap ((k : Int) + (P : Int)) = S := by rw [hS, IntKind.wrap_i64]; omega
      rw [HN.out] at ht hrl
      rw [show ((k + P : Nat) : Int) = S by omega] at ht
      have q2 : (0 : Int) ≤ (r : Int) := Int.natCast_nonneg _
      have q3 : (r : Int) < (N : Int) := by omega
      have e3 : IntKind.i64.wrap (r : Int) = (r : Int) := by rw [IntKind.wrap_i64]; omega
      obtain ⟨x, hx⟩ : ∃ x, pc l k = x := ⟨_, rfl⟩
      obtain ⟨y, hy⟩ : ∃ y, pc l (k + P) = y := ⟨_, rfl⟩
      rw [hx] at hc2
      rw [hy] at hc
      clear hS hgs hgs2
      by_cases he : x = y
      · have r0 : (x != y) = false := by simp [he]
        have HK2 : Hid (∀ j, j < k + 1 → pc l j = pc l (j + P)) := Lib.hid (fun j hj => by
          by_cases ej : j = k
          · subst ej; rw [hx, hy, he]
          · exact HK.out j (by omega))
        clear hx hy he hkl
        go_wp2_with fail
        go_quiet (fail)
        go_wp2
        go_roundw
        case rel => exact ⟨k + 1, by omega, by go_num, HK2, Lib.hid (HA.out.below (drewN_below _ _)), Lib.hid (HB.out.trans ((drewN_below _ _).mono HB.out.size))⟩
        case measure => simp [intOf]; omega
      · have r0 : (x != y) = true := by simpa using he
        have HRES := Lib.hid (rep_no hkl (by rw [hx, hy]; exact he))
        clear hx hy he hkl
        go_wp2_with fail
        go_quiet (fail)
        go_wp2
        go_ret
        rw [HRES.out]
        exact ⟨rfl, HB.out.trans ((drewN_below _ _).mono HB.out.size)⟩
    · obtain rfl : k = N := by omega
      have HRES := Lib.hid (show repB l P = true from rep_of fun j hj => HK.out j (by have := HN.out; omega))
      go_wp2
      go_ret
      rw [HRES.out]
      exact ⟨rfl, HB.out⟩

set_option maxRecDepth 100000 in
set_option maxHeartbeats 2000000 in
theorem period_impl (n m : Int) (p : Nat) (a : Option Addr) (N c : Nat) (l : List Int) (w : World) (hl : l.length = N) (hn : N ≤ 1048576) (hr : IRow w a l) (hp : discB n m l = true → IsPer l p) :
    Calls Try.prog 12 #[.agg #[.int .i64 n, .int .i64 m, .slice a N c]] w fun e w' => e = .returned (.int .i64 (if discB n m l then (p : Int) else -1)) ∧ Below w.heap.size w w' := by
  obtain ⟨W, hW, hA, hB, _⟩ := beginA w n m a N c l hr
  have HW := Lib.hid hW
  have HB := Lib.hid hB
  have HA := Lib.hid hA
  have HN := Lib.hid hl
  have HH := Lib.hid (fun w h => ok_impl n m a N c l w hl hn h)
  obtain ⟨k0, k1, k2⟩ := HA.out.var.cells
  clear hW hA hB hr
  cases hok : discB n m l with
  | false =>
    rw [hok] at HH
    rw [if_neg (by simp)]
    clear hok hp
    go_enter Try.func12, Try.ntmps12
    go_wp2_with fail
    rw [HW.out]
    go_wp2_with fail
    refine (HH.out _ HA.out.row).mono ?_
    rintro e w1 ⟨rfl, hb⟩
    have HA := Lib.hid (HA.out.below hb)
    have HB := Lib.hid (HB.out.trans (hb.mono HB.out.size))
    clear hb k0 k1 k2
    obtain ⟨k0, k1, k2⟩ := HA.out.var.cells
    go_wp2
    go_ret
    exact ⟨rfl, HB.out⟩
  | true =>
    rw [hok] at HH
    have hpp := hp hok
    obtain ⟨hN2, hN24, rfl, M, hM, rfl⟩ := nats_of (x := 0) hl hok
    have hp1 := hpp.one
    have hp2 := hpp.le
    rw [hl] at hp2
    have HP := Lib.hid hpp
    rw [if_pos rfl]
    clear hok hp hpp
    go_enter Try.func12, Try.ntmps12
    go_wp2_with fail
    rw [HW.out]
    go_wp2_with fail
    refine (HH.out _ HA.out.row).mono ?_
    rintro e w1 ⟨rfl, hb⟩
    have HA := Lib.hid (HA.out.below hb)
    have HB := Lib.hid (HB.out.trans (hb.mono HB.out.size))
    clear hb k0 k1 k2
    obtain ⟨k0, k1, k2⟩ := HA.out.var.cells
    go_wp2_with fail
    go_loopw [3] (fun i wr => ∃ k : Nat, 1 ≤ k ∧ k ≤ p ∧ i = .int .i64 (k : Int) ∧ Hid (At wr w.heap.size (N : Int) (M : Int) a N c l) ∧ Hid (Below w.heap.size w wr)) (fun i _ => p - (intOf i).toNat)
    case atStart => exact ⟨1, Nat.le_refl _, hp1, rfl, HA, HB⟩
    case round =>
      clear HA HB k0 k1 k2 HW
      obtain ⟨k, hk1, hk, rfl, HA, HB⟩ := hrel
      obtain ⟨k0, k1, k2⟩ := HA.out.var.cells
      have HRP := Lib.hid (rep_impl N M k (by omega) (by omega) (by omega) a c l _ HN.out HA.out.row)
      cases hrep : repB l k with
      | true =>
        obtain rfl : k = p := HP.out.same hk1 hrep hk
        rw [hrep] at HRP
        clear hrep
        go_wp2_with fail
        refine (HRP.out).mono ?_
        rintro e w2 ⟨rfl, hb⟩
        have HB := Lib.hid (HB.out.trans (hb.mono HB.out.size))
        clear hb k0 k1 k2
        go_wp2
        go_ret
        exact ⟨rfl, HB.out⟩
      | false =>
        have hne : k ≠ p := fun e => by have := HP.out.rep; rw [← e, hrep] at this; cases this
        rw [hrep] at HRP
        clear hrep
        go_wp2_with fail
        refine (HRP.out).mono ?_
        rintro e w2 ⟨rfl, hb⟩
        have HA := Lib.hid (HA.out.below hb)
        have HB := Lib.hid (HB.out.trans (hb.mono HB.out.size))
        clear hb k0 k1 k2
        go_wp2
        go_roundw
        case rel => exact ⟨k + 1, by omega, by omega, by go_num, HA, HB⟩
        case measure => simp [intOf]; omega

set_option maxRecDepth 100000 in
set_option maxHeartbeats 2000000 in
theorem period_spec (n m : Int) (p : Nat) (a : Option Addr) (N c : Nat) (l : List Int) (w : World) (hl : l.length = N) (hn : N ≤ 1048576) (hr : IRow w a l) (hp : discB n m l = true → IsPer l p) :
    Calls Try.prog 28 #[.agg #[.int .i64 n, .int .i64 m, .slice a N c]] w fun e w' => e = .returned (.int .i64 (if discB n m l then (p : Int) else -1)) ∧ Below w.heap.size w w' := by
  obtain ⟨W, hW, hA, hB, _⟩ := beginA w n m a N c l hr
  have HW := Lib.hid hW
  have HB := Lib.hid hB
  have HA := Lib.hid hA
  have HN := Lib.hid hl
  have HH := Lib.hid (fun w h => ok_spec n m a N c l w hl hn h)
  obtain ⟨k0, k1, k2⟩ := HA.out.var.cells
  clear hW hA hB hr
  cases hok : discB n m l with
  | false =>
    rw [hok] at HH
    rw [if_neg (by simp)]
    clear hok hp
    go_enter Try.func28, Try.ntmps28
    go_wp2_with fail
    rw [HW.out]
    go_wp2_with fail
    refine (HH.out _ HA.out.row).mono ?_
    rintro e w1 ⟨rfl, hb⟩
    have HA := Lib.hid (HA.out.below hb)
    have HB := Lib.hid (HB.out.trans (hb.mono HB.out.size))
    clear hb k0 k1 k2
    obtain ⟨k0, k1, k2⟩ := HA.out.var.cells
    go_wp2
    go_ret
    exact ⟨rfl, HB.out⟩
  | true =>
    rw [hok] at HH
    have hpp := hp hok
    obtain ⟨hN2, hN24, rfl, M, hM, rfl⟩ := nats_of (x := 0) hl hok
    have hp1 := hpp.one
    have hp2 := hpp.le
    rw [hl] at hp2
    have HP := Lib.hid hpp
    rw [if_pos rfl]
    clear hok hp hpp
    have hz : ((N : Int) == 0) = false := by simp; omega
    have hz2 : ((N : Int) != 0) = true := by simp; omega
    have hz3 : ¬ (N : Int) = 0 := by omega
    go_enter Try.func28, Try.ntmps28
    go_wp2_with fail
    rw [HW.out]
    go_wp2_with fail
    refine (HH.out _ HA.out.row).mono ?_
    rintro e w1 ⟨rfl, hb⟩
    have HA := Lib.hid (HA.out.below hb)
    have HB := Lib.hid (HB.out.trans (hb.mono HB.out.size))
    clear hb k0 k1 k2
    obtain ⟨k0, k1, k2⟩ := HA.out.var.cells
    go_wp2_with fail
    go_loopw [3] (fun i wr => ∃ k : Nat, 1 ≤ k ∧ k ≤ p ∧ i = .int .i64 (k : Int) ∧ Hid (At wr w.heap.size (N : Int) (M : Int) a N c l) ∧ Hid (Below w.heap.size w wr)) (fun i _ => p + 1 - (intOf i).toNat)
    case atStart => exact ⟨1, Nat.le_refl _, hp1, rfl, HA, HB⟩
    case round =>
      rename World => wq
      clear HA HB k0 k1 k2 HW
      obtain ⟨k, hk1, hk, rfl, HA, HB⟩ := hrel
      obtain ⟨k0, k1, k2⟩ := HA.out.var.cells
      have q0 : (0 : Int) ≤ (k : Int) := Int.natCast_nonneg _
      by_cases hlt : k < N
      · have q1 : (k : Int) < (N : Int) := by omega
        obtain ⟨R, hR⟩ : ∃ R, N % k = R := ⟨_, rfl⟩
        have hR2 : R < k := by rw [← hR]; exact Nat.mod_lt _ hk1
        have ht0 : Int.tmod (N : Int) (k : Int) = (R : Int) := by rw [Int.tmod_eq_emod_of_nonneg (by omega), ← hR]; omega
        have hw0 : IntKind.i64.wrap (R : Int) = (R : Int) := by rw [IntKind.wrap_i64]; omega
        have hy0 : ((k : Int) == 0) = false := by simp; omega
        have hy2 : ((k : Int) != 0) = true := by simp; omega
        have hy3 : ¬ (k : Int) = 0 := by omega
        have HS0 := Lib.hid (show sameB l k 0 = ((R : Int) == 0) by
          rw [same_zero, HN.out, hR]
          by_cases e : R = 0
          · subst e; rfl
          · rw [decide_eq_false e]; symm; simpa using e)
        clear hR hR2
        go_wp2_with fail
        go_loopw [4, 5] (fun s i wr => ∃ j : Nat, j ≤ N ∧ i = .int .i64 (j : Int) ∧ s = .bool (sameB l k j) ∧ Hid (At wr w.heap.size (N : Int) (M : Int) a N c l) ∧ Hid (Below w.heap.size w wr)) (fun _ i _ => N - (intOf i).toNat)
        case atStart => exact ⟨0, Nat.zero_le _, rfl, by rw [HS0.out], HA, HB⟩
        case round =>
          clear HA HB k0 k1 k2
          obtain ⟨j, hj, rfl, rfl, HA, HB⟩ := hrel
          obtain ⟨k0, k1, k2⟩ := HA.out.var.cells
          by_cases hjt : j < N
          · have q4 : (0 : Int) ≤ (j : Int) := Int.natCast_nonneg _
            have q5 : (j : Int) < (N : Int) := by omega
            have hkl : j < l.length := by rw [HN.out]; exact hjt
            cases hsb : sameB l k j with
            | false =>
              have HN2 := Lib.hid (same_off hsb)
              clear hsb hkl
              go_wp2_with fail
              go_quiet (fail)
              go_wp2
              go_roundw
              case rel => exact ⟨j + 1, by omega, by go_num, by rw [HN2.out], Lib.hid (HA.out.below (drewN_below _ _)), Lib.hid (HB.out.trans ((drewN_below _ _).mono HB.out.size))⟩
              case measure => simp [intOf]; omega
            | true =>
              obtain ⟨g2, e2, hgs2, hc2⟩ := HA.out.row j hkl
              rw [← pc_get hkl] at hc2
              obtain ⟨r, g, hrl, ht, rfl, hgs, hc⟩ := pc_row HA.out.row (by have := HN.out; omega) (j + k)
              cases e2
              obtain ⟨S, hS⟩ : ∃ S, (j : Int) + (k : Int) = S := ⟨_, rfl⟩
              have e1 : IntKind.i64.wrap ((j : Int) + (k : Int)) = S := by rw [hS, IntKind.wrap_i64]; omega
              rw [HN.out] at ht hrl
              rw [show ((j + k : Nat) : Int) = S by omega] at ht
              have q2 : (0 : Int) ≤ (r : Int) := Int.natCast_nonneg _
              have q3 : (r : Int) < (N : Int) := by omega
              have e3 : IntKind.i64.wrap (r : Int) = (r : Int) := by rw [IntKind.wrap_i64]; omega
              obtain ⟨x, hx⟩ : ∃ x, pc l j = x := ⟨_, rfl⟩
              obtain ⟨y, hy⟩ : ∃ y, pc l (j + k) = y := ⟨_, rfl⟩
              rw [hx] at hc2
              rw [hy] at hc
              clear hS hgs hgs2
              by_cases he : x = y
              · have r0 : (x == y) = true := by simp [he]
                have HN2 := Lib.hid (same_yes hsb (by rw [hx, hy, he]))
                clear hsb hkl hx hy he
                go_wp2_with fail
                go_quiet (fail)
                go_wp2
                go_roundw
                case rel => exact ⟨j + 1, by omega, by go_num, by rw [HN2.out], Lib.hid (HA.out.below (drewN_below _ _)), Lib.hid (HB.out.trans ((drewN_below _ _).mono HB.out.size))⟩
                case measure => simp [intOf]; omega
              · have r0 : (x == y) = false := by simpa using he
                have HN2 := Lib.hid (same_no (l := l) (k := k) (j := j) (by rw [hx, hy]; exact he))
                clear hsb hkl hx hy he
                go_wp2_with fail
                go_quiet (fail)
                go_wp2
                go_roundw
                case rel => exact ⟨j + 1, by omega, by go_num, by rw [HN2.out], Lib.hid (HA.out.below (drewN_below _ _)), Lib.hid (HB.out.trans ((drewN_below _ _).mono HB.out.size))⟩
                case measure => simp [intOf]; omega
          · obtain rfl : j = N := by omega
            have hse := same_end (l := l) (k := k)
            rw [HN.out] at hse
            rw [hse]
            cases hsb : (decide (j % k = 0) && repB l k) with
            | false =>
              have hne : k ≠ p := fun e => by
                have h1 := HP.out.rep
                have h2 := HP.out.dvd
                rw [HN.out] at h2
                rw [e, h1, h2] at hsb
                simp at hsb
              clear hsb hse
              go_wp2
              go_roundw
              case rel => exact ⟨k + 1, by omega, by omega, by go_num, HA, HB⟩
              case measure => simp [intOf]; omega
            | true =>
              obtain rfl : k = p := HP.out.same hk1 (by simp only [Bool.and_eq_true] at hsb; exact hsb.2) hk
              clear hsb hse
              go_wp2
              go_ret
              exact ⟨rfl, HB.out⟩
      · obtain rfl : k = N := by omega
        obtain rfl : k = p := by omega
        go_wp2
        go_ret
        exact ⟨rfl, HB.out⟩
end Go.Proofs.Ytcfpgjcepmebdaa.Disc
