/- What MeetAgain returns, of the program and of the model (printed by wip/gen_disc3.py). -/
import Derived.Test.YtcfpgjcepmebdaaDiscSeen
namespace Go.Proofs.Ytcfpgjcepmebdaa.Disc
open Go.ChangeShapes Go.WideShapes Go.ChangeAt Go.RowKit
open Go.Proofs.Ytcfpgjcepmebdaa.Ints
set_option linter.unusedVariables false

/-- The block of a second disc. -/
theorem begin_two (w : World) (n m : Int) (a : Option Addr) (N c : Nat) (l : List Int) (n2 m2 : Int) (a2 : Option Addr) (N2 c2 : Nat) (l2 : List Int) (hr : IRow w a l) (hr2 : IRow w a2 l2) :
    ∃ W, (w.alloc (.cells #[.int .i64 n, .int .i64 m, .slice a N c] 26)).alloc (.cells #[.int .i64 n2, .int .i64 m2, .slice a2 N2 c2] 26) = W ∧ At W w.heap.size n m a N c l ∧ At W (w.heap.size + 1) n2 m2 a2 N2 c2 l2 ∧ Below w.heap.size w W := by
  obtain ⟨W1, h1, ha, hb, hs⟩ := beginA w n m a N c l hr
  obtain ⟨W2, h2, ha2, hb2, _⟩ := beginA W1 n2 m2 a2 N2 c2 l2 (hr2.below hb)
  refine ⟨W2, by rw [h1, h2], ha.below hb2, ?_, hb.trans (hb2.mono hb.size)⟩
  rw [show w.heap.size + 1 = W1.heap.size by rw [← h1]; simp]
  exact ha2
theorem lcm_step {N N2 q k s : Nat} (hN : 0 < N) (hN2 : 0 < N2) (hq : Nat.lcm N N2 = N * q) (hs : s = N * k) (hk1 : 1 ≤ k) (hk : k ≤ q) :
    (s % N2 = 0 → s = Nat.lcm N N2) ∧ (¬ s % N2 = 0 → k + 1 ≤ q ∧ s + N = N * (k + 1) ∧ s + N ≤ Nat.lcm N N2) := by
  have hle : s ≤ Nat.lcm N N2 := by rw [hs, hq]; exact Nat.mul_le_mul_left _ hk
  have hs0 : 0 < s := by rw [hs]; exact Nat.mul_pos hN hk1
  refine ⟨fun h => ?_, fun h => ?_⟩
  · have hd : Nat.lcm N N2 ∣ s := Nat.lcm_dvd ⟨k, hs⟩ (Nat.dvd_of_mod_eq_zero h)
    have := Nat.le_of_dvd hs0 hd
    omega
  · have hne : k ≠ q := fun e => h (by
      rw [hs, e, ← hq]
      exact Nat.mod_eq_zero_of_dvd (Nat.dvd_lcm_right N N2))
    refine ⟨by omega, by rw [hs, Nat.mul_succ], ?_⟩
    have : s + N = N * (k + 1) := by rw [hs, Nat.mul_succ]
    rw [this, hq]
    exact Nat.mul_le_mul_left _ (by omega)
theorem lcm_le {N N2 : Nat} (h : N ≤ 24) (h2 : N2 ≤ 24) (h0 : 0 < N) (h1 : 0 < N2) : Nat.lcm N N2 ≤ 576 :=
  Nat.le_trans (Nat.le_of_dvd (Nat.mul_pos h0 h1) (Nat.lcm_dvd (Nat.dvd_mul_right N N2) (Nat.dvd_mul_left N2 N))) (Nat.mul_le_mul h h2)

set_option maxRecDepth 100000 in
set_option maxHeartbeats 2000000 in
theorem meet_impl (n m : Int) (a : Option Addr) (N c : Nat) (l : List Int) (n2 m2 : Int) (a2 : Option Addr) (N2 c2 : Nat) (l2 : List Int) (w : World) (hl : l.length = N) (hn : N ≤ 1048576) (hr : IRow w a l) (hl2 : l2.length = N2) (hn2 : N2 ≤ 1048576) (hr2 : IRow w a2 l2) :
    Calls Try.prog 15 #[.agg #[.int .i64 n, .int .i64 m, .slice a N c], .agg #[.int .i64 n2, .int .i64 m2, .slice a2 N2 c2]] w fun e w' => e = .returned (.int .i64 (if discB n m l && discB n2 m2 l2 then (Nat.lcm N N2 : Int) else -1)) ∧ Below w.heap.size w w' := by
  obtain ⟨W, hW, hA, hA2, hB⟩ := begin_two w n m a N c l n2 m2 a2 N2 c2 l2 hr hr2
  have HW := Lib.hid hW
  have HB := Lib.hid hB
  have HA := Lib.hid hA
  have HA2 := Lib.hid hA2
  have HN := Lib.hid hl
  have HH := Lib.hid (fun w h => ok_impl n m a N c l w hl hn h)
  have HH2 := Lib.hid (fun w h => ok_impl n2 m2 a2 N2 c2 l2 w hl2 hn2 h)
  obtain ⟨k0, k1, k2⟩ := HA.out.var.cells
  obtain ⟨m0, m1, m2'⟩ := HA2.out.var.cells
  clear hW hA hA2 hB hr hr2
  cases hok : discB n m l with
  | false =>
    rw [hok] at HH
    rw [if_neg (by simp)]
    clear hok
    go_enter Try.func15, Try.ntmps15
    go_wp2_with fail
    rw [HW.out]
    go_wp2_with fail
    refine (HH.out _ HA.out.row).mono ?_
    rintro e w1 ⟨rfl, hb⟩
    have HA := Lib.hid (HA.out.below hb)
    have HA2 := Lib.hid (HA2.out.below hb)
    have HB := Lib.hid (HB.out.trans (hb.mono HB.out.size))
    clear hb k0 k1 k2 m0 m1 m2'
    obtain ⟨k0, k1, k2⟩ := HA.out.var.cells
    obtain ⟨m0, m1, m2'⟩ := HA2.out.var.cells
    go_wp2
    go_ret
    exact ⟨rfl, HB.out⟩
  | true =>
    rw [hok] at HH
    obtain ⟨hN1, hN24, rfl, M, hM, rfl⟩ := nats_of (x := 0) hl hok
    clear hok
    cases hok : discB n2 m2 l2 with
    | false =>
      rw [hok] at HH2
      rw [if_neg (by simp)]
      clear hok
      go_enter Try.func15, Try.ntmps15
      go_wp2_with fail
      rw [HW.out]
      go_wp2_with fail
      refine (HH.out _ HA.out.row).mono ?_
      rintro e w1 ⟨rfl, hb⟩
      have HA := Lib.hid (HA.out.below hb)
      have HA2 := Lib.hid (HA2.out.below hb)
      have HB := Lib.hid (HB.out.trans (hb.mono HB.out.size))
      clear hb k0 k1 k2 m0 m1 m2'
      obtain ⟨k0, k1, k2⟩ := HA.out.var.cells
      obtain ⟨m0, m1, m2'⟩ := HA2.out.var.cells
      go_wp2_with fail
      refine (HH2.out _ HA2.out.row).mono ?_
      rintro e w2 ⟨rfl, hb⟩
      have HA := Lib.hid (HA.out.below hb)
      have HA2 := Lib.hid (HA2.out.below hb)
      have HB := Lib.hid (HB.out.trans (hb.mono HB.out.size))
      clear hb k0 k1 k2 m0 m1 m2'
      obtain ⟨k0, k1, k2⟩ := HA.out.var.cells
      obtain ⟨m0, m1, m2'⟩ := HA2.out.var.cells
      go_wp2
      go_ret
      exact ⟨rfl, HB.out⟩
    | true =>
      rw [hok] at HH2
      obtain ⟨hN2, hN224, rfl, M2, hM2, rfl⟩ := nats_of (x := 0) hl2 hok
      clear hok
      rw [if_pos (by rfl)]
      obtain ⟨L, hL⟩ : ∃ L, Nat.lcm N N2 = L := ⟨_, rfl⟩
      obtain ⟨q, hq⟩ := Nat.dvd_lcm_left N N2
      have hL5 := lcm_le hN24 hN224 (by omega) (by omega)
      have hL1 : 0 < Nat.lcm N N2 := Nat.lcm_pos (by omega) (by omega)
      have hq1 : 1 ≤ q := by
        rcases Nat.eq_zero_or_pos q with e | e
        · rw [hq, e, Nat.mul_zero] at hL1; omega
        · exact e
      have hNL : N ≤ Nat.lcm N N2 := by rw [hq]; exact Nat.le_mul_of_pos_right _ hq1
      rw [hL] at hL5 hL1 hNL ⊢
      have HQ := Lib.hid hq
      have HL := Lib.hid hL
      clear hq hL
      have hy0 : ((N2 : Int) == 0) = false := by simp; omega
      have hy2 : ((N2 : Int) != 0) = true := by simp; omega
      have hy3 : ¬ (N2 : Int) = 0 := by omega
      go_enter Try.func15, Try.ntmps15
      go_wp2_with fail
      rw [HW.out]
      go_wp2_with fail
      refine (HH.out _ HA.out.row).mono ?_
      rintro e w1 ⟨rfl, hb⟩
      have HA := Lib.hid (HA.out.below hb)
      have HA2 := Lib.hid (HA2.out.below hb)
      have HB := Lib.hid (HB.out.trans (hb.mono HB.out.size))
      clear hb k0 k1 k2 m0 m1 m2'
      obtain ⟨k0, k1, k2⟩ := HA.out.var.cells
      obtain ⟨m0, m1, m2'⟩ := HA2.out.var.cells
      go_wp2_with fail
      refine (HH2.out _ HA2.out.row).mono ?_
      rintro e w2 ⟨rfl, hb⟩
      have HA := Lib.hid (HA.out.below hb)
      have HA2 := Lib.hid (HA2.out.below hb)
      have HB := Lib.hid (HB.out.trans (hb.mono HB.out.size))
      clear hb k0 k1 k2 m0 m1 m2'
      obtain ⟨k0, k1, k2⟩ := HA.out.var.cells
      obtain ⟨m0, m1, m2'⟩ := HA2.out.var.cells
      go_wp2_with fail
      go_loopw [5] (fun i wr => ∃ k s : Nat, Hid (s = N * k) ∧ 1 ≤ k ∧ k ≤ q ∧ s ≤ L ∧ i = .int .i64 (s : Int) ∧ Hid (At wr w.heap.size (N : Int) (M : Int) a N c l) ∧ Hid (At wr (w.heap.size + 1) (N2 : Int) (M2 : Int) a2 N2 c2 l2) ∧ Hid (Below w.heap.size w wr)) (fun i _ => L - (intOf i).toNat)
      case atStart => exact ⟨1, N, Lib.hid (by omega), Nat.le_refl _, hq1, hNL, rfl, HA, HA2, HB⟩
      case round =>
        clear HA HA2 HB k0 k1 k2 m0 m1 m2' HW
        obtain ⟨k, s, HS, hk1, hk, hsL, rfl, HA, HA2, HB⟩ := hrel
        obtain ⟨k0, k1, k2⟩ := HA.out.var.cells
        obtain ⟨m0, m1, m2'⟩ := HA2.out.var.cells
        have hst := lcm_step (by omega) (by omega) HQ.out HS.out hk1 hk
        rw [HL.out] at hst
        obtain ⟨R, hR⟩ : ∃ R, s % N2 = R := ⟨_, rfl⟩
        rw [hR] at hst
        have hR2 : R < N2 := by rw [← hR]; exact Nat.mod_lt _ (by omega)
        have q0 : (0 : Int) ≤ (s : Int) := Int.natCast_nonneg _
        have ht0 : Int.tmod (s : Int) (N2 : Int) = (R : Int) := by rw [Int.tmod_eq_emod_of_nonneg (by omega), ← hR]; omega
        have hw0 : IntKind.i64.wrap (R : Int) = (R : Int) := by rw [IntKind.wrap_i64]; omega
        by_cases hz : R = 0
        · obtain rfl : s = L := hst.1 hz
          have r0 : ((R : Int) != 0) = false := by simp [hz]
          clear hst hR hR2 hz
          go_wp2
          go_ret
          exact ⟨rfl, HB.out⟩
        · have r0 : ((R : Int) != 0) = true := by simpa using hz
          obtain ⟨g1, g2, g3⟩ := hst.2 hz
          have HS2 := Lib.hid g2
          have hsm : (s : Int) + (N : Int) ≤ 576 := by omega
          clear hst hR hR2 hz g2
          go_wp2
          go_roundw
          case rel => exact ⟨k + 1, s + N, HS2, by omega, g1, g3, by go_num, HA, HA2, HB⟩
          case measure => simp [intOf]; omega

set_option maxRecDepth 100000 in
set_option maxHeartbeats 2000000 in
theorem meet_spec (n m : Int) (a : Option Addr) (N c : Nat) (l : List Int) (n2 m2 : Int) (a2 : Option Addr) (N2 c2 : Nat) (l2 : List Int) (w : World) (hl : l.length = N) (hn : N ≤ 1048576) (hr : IRow w a l) (hl2 : l2.length = N2) (hn2 : N2 ≤ 1048576) (hr2 : IRow w a2 l2) :
    Calls Try.prog 29 #[.agg #[.int .i64 n, .int .i64 m, .slice a N c], .agg #[.int .i64 n2, .int .i64 m2, .slice a2 N2 c2]] w fun e w' => e = .returned (.int .i64 (if discB n m l && discB n2 m2 l2 then (Nat.lcm N N2 : Int) else -1)) ∧ Below w.heap.size w w' := by
  obtain ⟨W, hW, hA, hA2, hB⟩ := begin_two w n m a N c l n2 m2 a2 N2 c2 l2 hr hr2
  have HW := Lib.hid hW
  have HB := Lib.hid hB
  have HA := Lib.hid hA
  have HA2 := Lib.hid hA2
  have HN := Lib.hid hl
  have HH := Lib.hid (fun w h => ok_spec n m a N c l w hl hn h)
  have HH2 := Lib.hid (fun w h => ok_spec n2 m2 a2 N2 c2 l2 w hl2 hn2 h)
  obtain ⟨k0, k1, k2⟩ := HA.out.var.cells
  obtain ⟨m0, m1, m2'⟩ := HA2.out.var.cells
  clear hW hA hA2 hB hr hr2
  cases hok : discB n m l with
  | false =>
    rw [hok] at HH
    rw [if_neg (by simp)]
    clear hok
    go_enter Try.func29, Try.ntmps29
    go_wp2_with fail
    rw [HW.out]
    go_wp2_with fail
    refine (HH.out _ HA.out.row).mono ?_
    rintro e w1 ⟨rfl, hb⟩
    have HA := Lib.hid (HA.out.below hb)
    have HA2 := Lib.hid (HA2.out.below hb)
    have HB := Lib.hid (HB.out.trans (hb.mono HB.out.size))
    clear hb k0 k1 k2 m0 m1 m2'
    obtain ⟨k0, k1, k2⟩ := HA.out.var.cells
    obtain ⟨m0, m1, m2'⟩ := HA2.out.var.cells
    go_wp2
    go_ret
    exact ⟨rfl, HB.out⟩
  | true =>
    rw [hok] at HH
    obtain ⟨hN1, hN24, rfl, M, hM, rfl⟩ := nats_of (x := 0) hl hok
    clear hok
    cases hok : discB n2 m2 l2 with
    | false =>
      rw [hok] at HH2
      rw [if_neg (by simp)]
      clear hok
      go_enter Try.func29, Try.ntmps29
      go_wp2_with fail
      rw [HW.out]
      go_wp2_with fail
      refine (HH.out _ HA.out.row).mono ?_
      rintro e w1 ⟨rfl, hb⟩
      have HA := Lib.hid (HA.out.below hb)
      have HA2 := Lib.hid (HA2.out.below hb)
      have HB := Lib.hid (HB.out.trans (hb.mono HB.out.size))
      clear hb k0 k1 k2 m0 m1 m2'
      obtain ⟨k0, k1, k2⟩ := HA.out.var.cells
      obtain ⟨m0, m1, m2'⟩ := HA2.out.var.cells
      go_wp2_with fail
      refine (HH2.out _ HA2.out.row).mono ?_
      rintro e w2 ⟨rfl, hb⟩
      have HA := Lib.hid (HA.out.below hb)
      have HA2 := Lib.hid (HA2.out.below hb)
      have HB := Lib.hid (HB.out.trans (hb.mono HB.out.size))
      clear hb k0 k1 k2 m0 m1 m2'
      obtain ⟨k0, k1, k2⟩ := HA.out.var.cells
      obtain ⟨m0, m1, m2'⟩ := HA2.out.var.cells
      go_wp2
      go_ret
      exact ⟨rfl, HB.out⟩
    | true =>
      rw [hok] at HH2
      obtain ⟨hN2, hN224, rfl, M2, hM2, rfl⟩ := nats_of (x := 0) hl2 hok
      clear hok
      rw [if_pos (by rfl)]
      obtain ⟨L, hL⟩ : ∃ L, Nat.lcm N N2 = L := ⟨_, rfl⟩
      obtain ⟨q, hq⟩ := Nat.dvd_lcm_left N N2
      have hL5 := lcm_le hN24 hN224 (by omega) (by omega)
      have hL1 : 0 < Nat.lcm N N2 := Nat.lcm_pos (by omega) (by omega)
      have hq1 : 1 ≤ q := by
        rcases Nat.eq_zero_or_pos q with e | e
        · rw [hq, e, Nat.mul_zero] at hL1; omega
        · exact e
      have hNL : N ≤ Nat.lcm N N2 := by rw [hq]; exact Nat.le_mul_of_pos_right _ hq1
      rw [hL] at hL5 hL1 hNL ⊢
      have HQ := Lib.hid hq
      have HL := Lib.hid hL
      clear hq hL
      have hy0 : ((N2 : Int) == 0) = false := by simp; omega
      have hy2 : ((N2 : Int) != 0) = true := by simp; omega
      have hy3 : ¬ (N2 : Int) = 0 := by omega
      go_enter Try.func29, Try.ntmps29
      go_wp2_with fail
      rw [HW.out]
      go_wp2_with fail
      refine (HH.out _ HA.out.row).mono ?_
      rintro e w1 ⟨rfl, hb⟩
      have HA := Lib.hid (HA.out.below hb)
      have HA2 := Lib.hid (HA2.out.below hb)
      have HB := Lib.hid (HB.out.trans (hb.mono HB.out.size))
      clear hb k0 k1 k2 m0 m1 m2'
      obtain ⟨k0, k1, k2⟩ := HA.out.var.cells
      obtain ⟨m0, m1, m2'⟩ := HA2.out.var.cells
      go_wp2_with fail
      refine (HH2.out _ HA2.out.row).mono ?_
      rintro e w2 ⟨rfl, hb⟩
      have HA := Lib.hid (HA.out.below hb)
      have HA2 := Lib.hid (HA2.out.below hb)
      have HB := Lib.hid (HB.out.trans (hb.mono HB.out.size))
      clear hb k0 k1 k2 m0 m1 m2'
      obtain ⟨k0, k1, k2⟩ := HA.out.var.cells
      obtain ⟨m0, m1, m2'⟩ := HA2.out.var.cells
      go_wp2_with fail
      go_loopw [5] (fun i wr => ∃ k s : Nat, Hid (s = N * k) ∧ 1 ≤ k ∧ k ≤ q ∧ s ≤ L ∧ i = .int .i64 (s : Int) ∧ Hid (At wr w.heap.size (N : Int) (M : Int) a N c l) ∧ Hid (At wr (w.heap.size + 1) (N2 : Int) (M2 : Int) a2 N2 c2 l2) ∧ Hid (Below w.heap.size w wr)) (fun i _ => L - (intOf i).toNat)
      case atStart => exact ⟨1, N, Lib.hid (by omega), Nat.le_refl _, hq1, hNL, rfl, HA, HA2, HB⟩
      case round =>
        clear HA HA2 HB k0 k1 k2 m0 m1 m2' HW
        obtain ⟨k, s, HS, hk1, hk, hsL, rfl, HA, HA2, HB⟩ := hrel
        obtain ⟨k0, k1, k2⟩ := HA.out.var.cells
        obtain ⟨m0, m1, m2'⟩ := HA2.out.var.cells
        have hst := lcm_step (by omega) (by omega) HQ.out HS.out hk1 hk
        rw [HL.out] at hst
        obtain ⟨R, hR⟩ : ∃ R, s % N2 = R := ⟨_, rfl⟩
        rw [hR] at hst
        have hR2 : R < N2 := by rw [← hR]; exact Nat.mod_lt _ (by omega)
        have q0 : (0 : Int) ≤ (s : Int) := Int.natCast_nonneg _
        have ht0 : Int.tmod (s : Int) (N2 : Int) = (R : Int) := by rw [Int.tmod_eq_emod_of_nonneg (by omega), ← hR]; omega
        have hw0 : IntKind.i64.wrap (R : Int) = (R : Int) := by rw [IntKind.wrap_i64]; omega
        by_cases hz : R = 0
        · obtain rfl : s = L := hst.1 hz
          have r0 : ((R : Int) != 0) = false := by simp [hz]
          clear hst hR hR2 hz
          go_wp2
          go_ret
          exact ⟨rfl, HB.out⟩
        · have r0 : ((R : Int) != 0) = true := by simpa using hz
          obtain ⟨g1, g2, g3⟩ := hst.2 hz
          have HS2 := Lib.hid g2
          have hsm : (s : Int) + (N : Int) ≤ 576 := by omega
          clear hst hR hR2 hz g2
          go_wp2
          go_roundw
          case rel => exact ⟨k + 1, s + N, HS2, by omega, g1, g3, by go_num, HA, HA2, HB⟩
          case measure => simp [intOf]; omega

end Go.Proofs.Ytcfpgjcepmebdaa.Disc
