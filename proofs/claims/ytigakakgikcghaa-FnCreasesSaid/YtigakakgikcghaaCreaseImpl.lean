/- What the program of chapter 15 returns: stripOf, CreaseAt, CreaseText. -/
import Derived.Test.YtigakakgikcghaaCornerImpl
import Derived.Test.YtigakakgikcghaaCardImpl2
import Derived.Test.YtigakakgikcghaaCreaseDef
namespace Go.Proofs.Ytigakakgikcghaa.Crease
open Go.ChangeShapes Go.WideShapes Go.ChangeAt Go.RowKit
open Go.Proofs.Ytigakakgikcghaa.Strip Go.Proofs.Ytigakakgikcghaa.Ints Go.Proofs.Ytigakakgikcghaa.Corner Go.Proofs.Ytigakakgikcghaa.Strs Go.Proofs.Ytigakakgikcghaa.Card
set_option linter.unusedVariables false

set_option maxRecDepth 100000 in
set_option maxHeartbeats 2000000 in
theorem stripOf_impl (d f : Int) (a : Option Addr) (m c : Nat) (l : List ByteArray) (k : Int) (w : World) (hl : l.length = m) (hm : m ≤ 1048576) (hz : ∀ s ∈ l, s.size ≤ 1048576) (hr : Row w a l) :
    Calls Try.prog 30 #[.agg #[.int .i64 d, .int .i64 f, .slice a m c], .int .i64 k] w fun e w' => e = .returned (.string (stripN d f l k)) ∧ Below w.heap.size w w' := by
  have HBa := Lib.hid (alloc_below w (.cells #[.int .i64 d, .int .i64 f, .slice a m c] 26))
  have HVa := Lib.hid (Var.new w d f (.slice a m c))
  have HR0 := Lib.hid hr
  have HR := Lib.hid (hr.below HBa.out)
  have HOK := Lib.hid (fun (w' : World) (h : Row w' a l) => ok_impl d f a m c l w' hl hm hz h)
  have HL := Lib.hid hl
  cases hb : cardB d f l with
  | false =>
    rw [stripN_no (by rw [hb]; rintro ⟨h, _⟩; cases h)]
    rw [hb] at HOK
    clear hr hb hz hl
    go_enter Try.func30, Try.ntmps30
    go_wp2_with fail
    refine (HOK.out _ HR.out).mono ?_
    rintro e w1 ⟨rfl, hb1⟩
    have HBb := Lib.hid (HBa.out.trans (hb1.mono HBa.out.size))
    clear hb1
    go_wp2
    go_ret
    exact ⟨rfl, HBb.out⟩
  | true =>
    rw [hb] at HOK
    by_cases hk0 : k < 0
    · rw [stripN_no (by rintro ⟨_, h, _⟩; omega)]
      have hq : decide (k < 0) = true := decide_eq_true hk0
      clear hr hb hz hl
      go_enter Try.func30, Try.ntmps30
      go_wp2_with fail
      refine (HOK.out _ HR.out).mono ?_
      rintro e w1 ⟨rfl, hb1⟩
      have HBb := Lib.hid (HBa.out.trans (hb1.mono HBa.out.size))
      clear hb1
      go_wp2
      go_ret
      exact ⟨rfl, HBb.out⟩
    · have hq : decide (k < 0) = false := decide_eq_false hk0
      obtain ⟨j, rfl⟩ := Int.eq_ofNat_of_zero_le (show 0 ≤ k by omega)
      by_cases hkm : j < m
      · have hkl : j < l.length := by omega
        rw [stripN_yes hb j hkl]
        have hq2 : decide ((m : Int) ≤ (j : Int)) = false := by rw [decide_eq_false_iff_not]; omega
        have hj1 : (j : Int) < (m : Int) := by omega
        have hj0 : (0 : Int) ≤ (j : Int) := Int.natCast_nonneg _
        clear hr hb hz hl hk0
        go_enter Try.func30, Try.ntmps30
        go_wp2_with fail
        refine (HOK.out _ HR.out).mono ?_
        rintro e w1 ⟨rfl, hb1⟩
        have HBb := Lib.hid (HBa.out.trans (hb1.mono HBa.out.size))
        have HVb := Lib.hid (HVa.out.below hb1)
        clear hb1
        obtain ⟨k0, k1, k2⟩ := HVb.out.cells
        obtain ⟨g, rfl, _, c0⟩ := Row.at HR0.out HBb.out j hkl
        go_wp2
        go_ret
        exact ⟨rfl, HBb.out⟩
      · rw [stripN_no (by rintro ⟨_, _, h⟩; omega)]
        have hq2 : decide ((m : Int) ≤ (j : Int)) = true := by rw [decide_eq_true_iff]; omega
        clear hr hb hz hl hk0
        go_enter Try.func30, Try.ntmps30
        go_wp2_with fail
        refine (HOK.out _ HR.out).mono ?_
        rintro e w1 ⟨rfl, hb1⟩
        have HBb := Lib.hid (HBa.out.trans (hb1.mono HBa.out.size))
        have HVb := Lib.hid (HVa.out.below hb1)
        clear hb1
        obtain ⟨k0, k1, k2⟩ := HVb.out.cells
        go_wp2
        go_ret
        exact ⟨rfl, HBb.out⟩

theorem crV_impl (l : List UInt8) (i : Int) : crV l i = if cornerB 102 l i = true then 1 else if ((i == 0) && (l[0]? == some 102) || ((i == (l.length : Int)) && (l[l.length - 1]? == some 100) || cornerB 100 l i)) = true then 2 else 0 := by
  cases hA : cornerB 102 l i with
  | true => rw [crV_mount l i hA]; rfl
  | false =>
    by_cases hc : (i = 0 ∧ l[0]? = some 102) ∨ (i = l.length ∧ l[l.length - 1]? = some 100)
    · rw [crV_end l i hc, if_neg (by simp), if_pos]
      rcases hc with ⟨h1, h2⟩ | ⟨h1, h2⟩
      · rw [h1, h2]; simp
      · rw [beq_iff_eq.2 h1, h2]; simp
    · cases hB : cornerB 100 l i with
      | true => rw [crV_valley l i hA hB]; simp
      | false =>
        rw [crV_none l i hc hA hB, if_neg (by simp), if_neg]
        simpa using hc

set_option maxRecDepth 100000 in
set_option maxHeartbeats 4000000 in
theorem cAt_impl (d f : Int) (a : Option Addr) (m c : Nat) (l : List ByteArray) (k i : Int) (w : World) (hl : l.length = m) (hm : m ≤ 1048576) (hz : ∀ s ∈ l, s.size ≤ 1048576) (hr : Row w a l) (hi0 : -9223372036854775808 ≤ i) (hi1 : i ≤ 9223372036854775807) :
    Calls Try.prog 17 #[.agg #[.int .i64 d, .int .i64 f, .slice a m c], .int .i64 k, .int .i64 i] w fun e w' => e = .returned (.int .i64 (crV (stripN d f l k).data.toList i)) ∧ Below w.heap.size w w' := by
  have HBa := Lib.hid (alloc_below w (.cells #[.int .i64 d, .int .i64 f, .slice a m c] 26))
  have HR := Lib.hid (hr.below HBa.out)
  have HST := Lib.hid (fun (w' : World) (h : Row w' a l) => stripOf_impl d f a m c l k w' hl hm hz h)
  have hs := stripN_size d f l k hz
  clear hr hz hl
  generalize stripN d f l k = s at *
  have HM := Lib.hid (fun w : World => mountain_impl s i w hs hi0 hi1)
  have HV := Lib.hid (fun w : World => valley_impl s i w hs hi0 hi1)
  have hp := fun w => Try.strings_HasPrefix s ⟨#[102]⟩ w
  have hf := fun w => Try.strings_HasSuffix s ⟨#[100]⟩ w (by omega)
  rw [show (⟨#[102]⟩ : ByteArray).data.toList = [102] from rfl, prefix_f] at hp
  rw [show (⟨#[100]⟩ : ByteArray).data.toList = [100] from rfl, suffix_d] at hf
  rw [crV_impl, show s.data.toList.length = s.size by simp]
  rw [show s.data.toList.length = s.size by simp] at hf
  generalize (s.data.toList[0]? == some 102) = P at *
  generalize (s.data.toList[s.size - 1]? == some 100) = Q at *
  generalize cornerB 102 s.data.toList i = A at *
  generalize cornerB 100 s.data.toList i = B at *
  have HP := Lib.hid hp; clear hp
  have HF := Lib.hid hf; clear hf
  cases A with
  | true =>
    go_enter Try.func17, Try.ntmps17
    go_wp2_with fail
    refine (HST.out _ HR.out).mono ?_
    rintro e w1 ⟨rfl, hb⟩
    have HBb := Lib.hid (HBa.out.trans (hb.mono HBa.out.size)); clear hb
    go_wp2_with fail
    refine (HM.out _).mono ?_
    rintro e w2 ⟨rfl, hb⟩
    have HBc := Lib.hid (HBb.out.trans (hb.mono HBb.out.size)); clear hb
    go_wp2
    go_ret
    exact ⟨rfl, HBc.out⟩
  | false =>
    cases e1 : (i == 0) <;> cases e3 : (i == (s.size : Int)) <;> cases P <;> cases Q <;> cases B
    all_goals
      simp only [Bool.true_and, Bool.false_and, Bool.or_false, Bool.or_true, Bool.false_eq_true, if_false, if_true]
      go_enter Try.func17, Try.ntmps17
      go_wp2_with fail
      refine (HST.out _ HR.out).mono ?_
      rintro e w1 ⟨rfl, hb⟩
      have HBb := Lib.hid (HBa.out.trans (hb.mono HBa.out.size)); clear hb
      go_wp2_with fail
      refine (HM.out _).mono ?_
      rintro e w2 ⟨rfl, hb⟩
      have HBc := Lib.hid (HBb.out.trans (hb.mono HBb.out.size)); clear hb
      go_wp2_with fail
      try (with_reducible refine (HP.out _).mono ?_; rintro e w' ⟨rfl, rfl⟩; go_wp2_with fail)
      try (with_reducible refine (HF.out _).mono ?_; rintro e w' ⟨rfl, rfl⟩; go_wp2_with fail)
      try (with_reducible refine (HV.out _).mono ?_; rintro e w3 ⟨rfl, hb⟩; have HBc := Lib.hid (HBc.out.trans (hb.mono HBc.out.size)); clear hb; go_wp2_with fail)
      go_wp2
      go_ret
      exact ⟨rfl, HBc.out⟩
end Go.Proofs.Ytigakakgikcghaa.Crease
