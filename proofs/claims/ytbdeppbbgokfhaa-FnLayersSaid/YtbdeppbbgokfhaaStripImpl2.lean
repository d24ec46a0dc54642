/- What the program of chapter 2 returns: SameFrame, StripAt. -/
import Derived.Test.YtbdeppbbgokfhaaStripImpl
namespace Go.Proofs.Ytbdeppbbgokfhaa.Strip
open Go.ChangeShapes Go.WideShapes Go.ChangeAt Go.RowKit
set_option linter.unusedVariables false

theorem same_num (a b : List UInt8) (ha : stripB a = true) (hb : stripB b = true) :
    sameB a b = (((cnt 100 a : Int) == (cnt 100 b : Int)) && ((cnt 102 a : Int) == (cnt 102 b : Int))) := by
  unfold sameB
  rw [ha, hb, Bool.eq_iff_iff]
  simp
  omega

set_option maxRecDepth 100000 in
theorem at_impl (s : ByteArray) (k : Int) (w : World) (hm : s.size ≤ 1048576) :
    Calls Try.prog 91 #[.string s, .int .i64 k] w fun e w' => e = .returned (atV s.data.toList k) ∧ Below w.heap.size w w' := by
  have hlen : (s.data.toList.length : Int) = (s.size : Int) := by simp
  have HL := Lib.hid hlen; clear hlen
  cases hs : stripB s.data.toList with
  | false =>
    have hv : atV s.data.toList k = .tuple #[.int .i64 0, .int .i64 0, .bool false] := by unfold atV; rw [hs]; rfl
    rw [hv]
    go_enter Try.func91, Try.ntmps91
    go_wp2_with fail
    refine (is_impl s _ hm).mono ?_
    rintro e w1 ⟨rfl, hb⟩
    have HB := Lib.hid hb; clear hb
    rw [hs]
    go_wp2
    go_ret3
    exact ⟨rfl, HB.out⟩
  | true =>
    by_cases hk : 0 ≤ k ∧ k ≤ (s.size : Int)
    · obtain ⟨h0, h1⟩ := hk
      obtain ⟨n, rfl⟩ := Int.eq_ofNat_of_zero_le h0
      have hn : n ≤ s.size := by omega
      have hok : stepsV (s.extract 0 n).data.toList = .tuple #[.int .i64 (cnt 100 (s.data.toList.take n)), .int .i64 (cnt 102 (s.data.toList.take n)), .bool true] := by
        unfold stepsV
        rw [take_str, okL_take _ _ (stripB_ok hs)]
        rfl
      have hv : atV s.data.toList n = .tuple #[.int .i64 (cnt 102 (s.data.toList.take n)), .int .i64 (cnt 100 (s.data.toList.take n)), .bool true] := by
        unfold atV
        rw [if_pos ⟨hs, h0, by rw [HL.out]; exact h1⟩]
        rfl
      have HV := Lib.hid hv; clear hv
      have HOK := Lib.hid hok; clear hok
      have hsz : (s.extract 0 n).size ≤ 1048576 := by simp; omega
      have hd1 : decide ((n : Int) < 0) = false := by simp
      have hd2 : decide ((s.size : Int) < (n : Int)) = false := by simp; omega
      rw [HV.out]
      go_enter Try.func91, Try.ntmps91
      go_wp2_with fail
      refine (is_impl s _ hm).mono ?_
      rintro e w1 ⟨rfl, hb⟩
      have HB := Lib.hid hb; clear hb
      rw [hs]
      go_wp2_with fail
      refine (count_impl (s.extract 0 n) _ hsz).mono ?_
      rintro e w2 ⟨rfl, hb⟩
      have HB2 := Lib.hid (HB.out.trans (hb.mono HB.out.size)); clear hb
      rw [HOK.out]
      go_wp2
      go_ret3
      exact ⟨rfl, HB2.out⟩
    · have hv : atV s.data.toList k = .tuple #[.int .i64 0, .int .i64 0, .bool false] := by
        unfold atV; rw [if_neg]; rw [HL.out]; exact fun h => hk h.2
      rw [hv]
      by_cases h0 : k < 0
      · go_enter Try.func91, Try.ntmps91
        go_wp2_with fail
        refine (is_impl s _ hm).mono ?_
        rintro e w1 ⟨rfl, hb⟩
        have HB := Lib.hid hb; clear hb
        rw [hs]
        go_wp2
        go_ret3
        exact ⟨rfl, HB.out⟩
      · have hd1 : decide (k < 0) = false := by simp; omega
        have hd2 : decide ((s.size : Int) < k) = true := by simp; omega
        go_enter Try.func91, Try.ntmps91
        go_wp2_with fail
        refine (is_impl s _ hm).mono ?_
        rintro e w1 ⟨rfl, hb⟩
        have HB := Lib.hid hb; clear hb
        rw [hs]
        go_wp2
        go_ret3
        exact ⟨rfl, HB.out⟩
end Go.Proofs.Ytbdeppbbgokfhaa.Strip
