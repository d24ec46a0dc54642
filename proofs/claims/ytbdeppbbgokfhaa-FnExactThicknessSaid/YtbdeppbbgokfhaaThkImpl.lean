/- What the program of chapter 14 returns: Thickness. -/
import Derived.Test.YtbdeppbbgokfhaaThkSpec
import Derived.Test.YtbdeppbbgokfhaaThickImpl
import Derived.Test.YtbdeppbbgokfhaaCardImpl2
namespace Go.Proofs.Ytbdeppbbgokfhaa.Thick
open Go.ChangeShapes Go.WideShapes Go.ChangeAt Go.RowKit
open Go.Proofs.Ytbdeppbbgokfhaa.Strip Go.Proofs.Ytbdeppbbgokfhaa.Ints Go.Proofs.Ytbdeppbbgokfhaa.Corner Go.Proofs.Ytbdeppbbgokfhaa.Strs Go.Proofs.Ytbdeppbbgokfhaa.Card Go.Proofs.Ytbdeppbbgokfhaa.Kerf Go.Proofs.Ytbdeppbbgokfhaa.Order
set_option linter.unusedVariables false

set_option maxRecDepth 100000 in
set_option maxHeartbeats 4000000 in
theorem thk_impl (d f : Int) (a : Option Addr) (m c : Nat) (l : List ByteArray) (p : Int) (w : World) (hl : l.length = m) (hm : m ≤ 1048576) (hz : ∀ s ∈ l, s.size ≤ 1048576) (hr : Row w a l) :
    Calls Try.prog 29 #[.agg #[.int .i64 d, .int .i64 f, .slice a m c], .int .i64 p] w fun e w' => e = .returned (.int .i64 (thkV d f l p)) ∧ Below w.heap.size w w' := by
  have HBa := Lib.hid (alloc_below w (.cells #[.int .i64 d, .int .i64 f, .slice a m c] 26))
  have HVa := Lib.hid (Var.new w d f (.slice a m c))
  have HR0 := Lib.hid hr
  have HR := Lib.hid (hr.below HBa.out)
  have HOK := Lib.hid (fun (w' : World) (h : Row w' a l) => ok_impl d f a m c l w' hl hm hz h)
  have HL := Lib.hid hl
  have HZ := Lib.hid hz
  unfold thkV
  cases hb : cardB d f l with
  | false =>
    rw [hb] at HOK
    clear hr hb hz hl
    go_enter Try.func29, Try.ntmps29
    go_wp2_with fail
    refine (HOK.out _ HR.out).mono ?_
    rintro e w1 ⟨rfl, hb1⟩
    have HBb := Lib.hid (HBa.out.trans (hb1.mono HBa.out.size))
    clear hb1
    go_wp2
    go_ret
    exact ⟨rfl, HBb.out⟩
  | true =>
    rw [hb] at HOK
    have hlen : m ≤ 10 := by have := (cardB_iff.1 hb).2.2.1; omega
    have HTI := Lib.hid (fun k (hk : k ≤ m) => thT_in hb k (by rw [hl]; exact hk))
    simp only [if_true]
    rw [hl]
    clear hr hb hz hl
    by_cases hp1 : p < 1
    · rw [if_neg (show ¬ (1 ≤ p ∧ p ≤ 1000) by omega)]
      have hq1 : decide (p < 1) = true := decide_eq_true hp1
      go_enter Try.func29, Try.ntmps29
      go_wp2_with fail
      refine (HOK.out _ HR.out).mono ?_
      rintro e w1 ⟨rfl, hb1⟩
      have HBb := Lib.hid (HBa.out.trans (hb1.mono HBa.out.size))
      clear hb1
      go_wp2
      go_ret
      exact ⟨rfl, HBb.out⟩
    · have hq1 : decide (p < 1) = false := decide_eq_false hp1
      by_cases hp2 : 1000 < p
      · rw [if_neg (show ¬ (1 ≤ p ∧ p ≤ 1000) by omega)]
        have hq2 : decide (1000 < p) = true := decide_eq_true hp2
        go_enter Try.func29, Try.ntmps29
        go_wp2_with fail
        refine (HOK.out _ HR.out).mono ?_
        rintro e w1 ⟨rfl, hb1⟩
        have HBb := Lib.hid (HBa.out.trans (hb1.mono HBa.out.size))
        clear hb1
        go_wp2
        go_ret
        exact ⟨rfl, HBb.out⟩
      · have hq2 : decide (1000 < p) = false := decide_eq_false hp2
        rw [if_pos (show 1 ≤ p ∧ p ≤ 1000 by omega)]
        go_enter Try.func29, Try.ntmps29
        go_wp2_with fail
        refine (HOK.out _ HR.out).mono ?_
        rintro e w1 ⟨rfl, hb1⟩
        have HBb := Lib.hid (HBa.out.trans (hb1.mono HBa.out.size))
        have HVb := Lib.hid (HVa.out.below hb1)
        clear hb1 HR HOK HBa HVa
        obtain ⟨k0, k1, k2⟩ := HVb.out.cells
        go_wp2_with fail
        clear k0 k1 k2
        go_loopw [5, 22] (fun x i wr => ∃ k : Nat, k ≤ m ∧ i = .int .i64 (k : Int) ∧ x = .int .i64 (thT l k) ∧ Hid (Below w.heap.size w wr)) (fun _ i _ => m - (intOf i).toNat)
        case atStart => exact ⟨0, Nat.zero_le _, rfl, rfl, HBb⟩
        case round =>
          clear HVb HBb
          obtain ⟨k, hk, rfl, rfl, HB⟩ := hrel
          obtain ⟨t0, t1⟩ := HTI.out k hk
          have hk0 : (0 : Int) ≤ (k : Int) := Int.natCast_nonneg _
          by_cases hlt : k < m
          · have hk1 : (k : Int) < (m : Int) := by omega
            have hkl : k < l.length := by rw [HL.out]; exact hlt
            obtain ⟨g, rfl, _, c0⟩ := Row.at HR0.out HB.out k hkl
            have HA := Lib.hid (fun w' : World => thick_impl l[k] w' (HZ.out _ (List.getElem_mem hkl)))
            have HS := Lib.hid (thT_succ l k hkl)
            generalize thickV l[k].data.toList = y at *
            generalize l[k] = s at *
            generalize thT l k = N at *
            go_wp2_with fail
            refine (HA.out _).mono ?_
            rintro e w2 ⟨rfl, hb⟩
            have HB2 := Lib.hid (HB.out.trans (hb.mono HB.out.size))
            clear hb HB
            go_wp2
            go_roundw
            case rel => exact ⟨k + 1, by omega, by go_num, by rw [HS.out]; try (congr 1; try (split <;> omega)), HB2⟩
            case measure => simp [intOf]; omega
          · obtain rfl : k = m := by omega
            obtain ⟨q0, q1, q2⟩ := mul_in t0 t1 (p := p) (by omega) (by omega)
            have Q2 := Lib.hid q2
            clear q2
            go_wp2
            go_ret
            exact ⟨Ints.ret_int Q2.out.symm, HB.out⟩
end Go.Proofs.Ytbdeppbbgokfhaa.Thick
