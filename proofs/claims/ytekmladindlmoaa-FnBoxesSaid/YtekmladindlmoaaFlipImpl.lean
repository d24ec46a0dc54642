/- What the program of chapter 10 returns: CanRaise, RaiseAt, LowerAt. -/
import Derived.Test.YtekmladindlmoaaFlipSpec
import Derived.Test.YtekmladindlmoaaCornerImpl
namespace Go.Proofs.Ytekmladindlmoaa.Flip
open Go.ChangeShapes Go.WideShapes Go.ChangeAt Go.RowKit
open Go.Proofs.Ytekmladindlmoaa.Strip Go.Proofs.Ytekmladindlmoaa.Ints Go.Proofs.Ytekmladindlmoaa.Corner Go.Proofs.Ytekmladindlmoaa.Kerf Go.Proofs.Ytekmladindlmoaa.Order
set_option linter.unusedVariables false

theorem can_impl (s : ByteArray) (k : Int) (w : World) (hm : s.size ≤ 1048576) (hk0 : -9223372036854775808 ≤ k) (hk1 : k ≤ 9223372036854775807) :
    Calls Try.prog 82 #[.string s, .int .i64 k] w fun e w' => e = .returned (.bool (cornerB 100 s.data.toList k)) ∧ Below w.heap.size w w' := by
  go_enter Try.func82, Try.ntmps82
  go_wp2_with fail
  refine (valley_impl s k _ hm hk0 hk1).mono ?_
  rintro e w' ⟨rfl, hb⟩
  have HB := Lib.hid hb; clear hb
  go_wp2
  go_ret
  exact ⟨rfl, HB.out⟩

set_option maxRecDepth 100000 in
theorem raise_impl (s : ByteArray) (k : Int) (w : World) (hm : s.size ≤ 1048576) (hk0 : -9223372036854775808 ≤ k) (hk1 : k ≤ 9223372036854775807) :
    Calls Try.prog 54 #[.string s, .int .i64 k] w fun e w' => e = .returned (.tuple #[.string (raiseS s k), .bool (cornerB 100 s.data.toList k)]) ∧ Below w.heap.size w w' := by
  cases hc : cornerB 100 s.data.toList k with
  | false =>
    have hv : raiseS s k = s := by unfold raiseS; rw [hc]; rfl
    rw [hv]
    go_enter Try.func54, Try.ntmps54
    go_wp2_with fail
    refine (can_impl s k _ hm hk0 hk1).mono ?_
    rintro e w' ⟨rfl, hb⟩
    have HB := Lib.hid hb; clear hb
    rw [hc]
    go_wp2
    go_ret2
    exact ⟨rfl, HB.out⟩
  | true =>
    obtain ⟨k, rfl⟩ : ∃ j : Nat, k = (j : Int) := ⟨k.toNat, by unfold cornerB at hc; simp only [Bool.and_eq_true, decide_eq_true_eq] at hc; omega⟩
    obtain ⟨hs, k1, k2, a, b, e, ea, eq1, eq2⟩ := corner_parts (.inl ⟨rfl, rfl⟩) hc
    have hv : raiseS s (k : Int) = ⟨(swapL 102 100 s.data.toList k).toArray⟩ := by unfold raiseS; rw [if_pos hc]; rfl
    have hi : k < s.size := by simpa using k2
    obtain ⟨i, hk⟩ : ∃ i, k = i + 1 := ⟨k - 1, by omega⟩
    obtain ⟨m, hj⟩ : ∃ m, m = k + 1 := ⟨_, rfl⟩
    have a1 : (k : Int) - 1 = (i : Int) := by omega
    have a2 : (k : Int) + 1 = (m : Int) := by omega
    have b0 : (0 : Int) ≤ (i : Int) := by omega
    have b3 : (m : Int) ≤ (s.size : Int) := by omega
    have b5 : (i : Int) ≤ (s.size : Int) := by omega
    have b7 : (0 : Int) ≤ (m : Int) := by omega
    have c3 : m ≤ s.size := by omega
    have c5 : i ≤ s.size := by omega
    have HK := Lib.hid hk
    have HJ := Lib.hid hj
    rw [hv]
    clear hk hj hv e eq1 eq2 ea
    go_enter Try.func54, Try.ntmps54
    go_wp2_with fail
    refine (can_impl s _ _ hm hk0 hk1).mono ?_
    rintro e w1 ⟨rfl, hb⟩
    have HB := Lib.hid hb; clear hb
    rw [hc]
    go_wp2_with fail
    go_quiet (fail)
    go_wp2
    go_ret2
    refine ⟨?_, HB.out.trans ((drewN_below _ _).mono HB.out.size)⟩
    rw [← put_is s i k m 102 100 HK.out HJ.out hi]
    rfl

set_option maxRecDepth 100000 in
theorem lower_impl (s : ByteArray) (k : Int) (w : World) (hm : s.size ≤ 1048576) (hk0 : -9223372036854775808 ≤ k) (hk1 : k ≤ 9223372036854775807) :
    Calls Try.prog 55 #[.string s, .int .i64 k] w fun e w' => e = .returned (.tuple #[.string (lowerS s k), .bool (cornerB 102 s.data.toList k)]) ∧ Below w.heap.size w w' := by
  cases hc : cornerB 102 s.data.toList k with
  | false =>
    have hv : lowerS s k = s := by unfold lowerS; rw [hc]; rfl
    rw [hv]
    go_enter Try.func55, Try.ntmps55
    go_wp2_with fail
    refine (mountain_impl s k _ hm hk0 hk1).mono ?_
    rintro e w' ⟨rfl, hb⟩
    have HB := Lib.hid hb; clear hb
    rw [hc]
    go_wp2
    go_ret2
    exact ⟨rfl, HB.out⟩
  | true =>
    obtain ⟨k, rfl⟩ : ∃ j : Nat, k = (j : Int) := ⟨k.toNat, by unfold cornerB at hc; simp only [Bool.and_eq_true, decide_eq_true_eq] at hc; omega⟩
    obtain ⟨hs, k1, k2, a, b, e, ea, eq1, eq2⟩ := corner_parts (.inr ⟨rfl, rfl⟩) hc
    have hv : lowerS s (k : Int) = ⟨(swapL 100 102 s.data.toList k).toArray⟩ := by unfold lowerS; rw [if_pos hc]; rfl
    have hi : k < s.size := by simpa using k2
    obtain ⟨i, hk⟩ : ∃ i, k = i + 1 := ⟨k - 1, by omega⟩
    obtain ⟨m, hj⟩ : ∃ m, m = k + 1 := ⟨_, rfl⟩
    have a1 : (k : Int) - 1 = (i : Int) := by omega
    have a2 : (k : Int) + 1 = (m : Int) := by omega
    have b0 : (0 : Int) ≤ (i : Int) := by omega
    have b3 : (m : Int) ≤ (s.size : Int) := by omega
    have b5 : (i : Int) ≤ (s.size : Int) := by omega
    have b7 : (0 : Int) ≤ (m : Int) := by omega
    have c3 : m ≤ s.size := by omega
    have c5 : i ≤ s.size := by omega
    have HK := Lib.hid hk
    have HJ := Lib.hid hj
    rw [hv]
    clear hk hj hv e eq1 eq2 ea
    go_enter Try.func55, Try.ntmps55
    go_wp2_with fail
    refine (mountain_impl s _ _ hm hk0 hk1).mono ?_
    rintro e w1 ⟨rfl, hb⟩
    have HB := Lib.hid hb; clear hb
    rw [hc]
    go_wp2_with fail
    go_quiet (fail)
    go_wp2
    go_ret2
    refine ⟨?_, HB.out.trans ((drewN_below _ _).mono HB.out.size)⟩
    rw [← put_is s i k m 100 102 HK.out HJ.out hi]
    rfl
end Go.Proofs.Ytekmladindlmoaa.Flip
