/- What the program of chapter 8 returns: greaterOf, lesserOf, combineStrips, UpperOf, LowerOf, IsAbove, AreComparable (printed by wip/gen_orderimpl.py). -/
import Derived.Test.YthigiemgdejdhaaDoorOrderSpec
import Derived.Test.YthigiemgdejdhaaDoorStripImpl2
import Derived.Test.YthigiemgdejdhaaDoorKit
namespace Go.Proofs.YthigiemgdejdhaaDoor.Order
open Go.ChangeShapes Go.WideShapes Go.ChangeAt Go.RowKit
open Go.Proofs.YthigiemgdejdhaaDoor.Strip Go.Proofs.YthigiemgdejdhaaDoor.Kerf
set_option linter.unusedVariables false

/-- strings.Count of the letter f. -/
theorem count_one (x : ByteArray) (w : World) :
    Calls Tryd.prog 33 #[.string x, .string ⟨#[102]⟩] w fun e w' => e = .returned (.int .i64 (cnt 102 x.data.toList : Int)) ∧ w = w' :=
  (Tryd.strings_Count_one x 102 w).mono fun _ _ ⟨a, b⟩ => ⟨a, b.symm⟩

theorem max_at (x y : Int) (w : World) :
    Calls Tryd.prog 67 #[.int .i64 x, .int .i64 y] w fun e w' => e = .returned (.int .i64 (max x y)) ∧ w = w' := by
  go_enter Tryd.func67, Tryd.ntmps67
  go_wp2
  go_ret
  exact ⟨rfl, rfl⟩

set_option maxRecDepth 100000 in
set_option maxHeartbeats 4000000 in
theorem combine_true (s t : ByteArray) (w : World) (hm : s.size ≤ 1048576) (hm' : t.size ≤ 1048576) :
    Calls Tryd.prog 66 #[.string s, .string t, .func (.func 67) #[] #[]] w fun e w' => e = .returned (.string (mixS true s t)) ∧ Below w.heap.size w w' := by
  have hsl : s.data.toList.length = s.size := by simp
  have HSL := Lib.hid hsl; clear hsl
  have hsm := fun w => same_impl s t w hm hm'
  cases hst : sameB s.data.toList t.data.toList with
  | false =>
    rw [hst] at hsm
    have HSM := Lib.hid hsm; clear hsm
    rw [show mixS true s t = ⟨#[]⟩ from by unfold mixS; rw [mix_no hst]]
    go_enter Tryd.func66, Tryd.ntmps66
    go_wp2_with fail
    refine (HSM.out _).mono ?_
    rintro e w1 ⟨rfl, hb⟩
    have HB := Lib.hid hb; clear hb
    go_wp2
    go_ret
    exact ⟨rfl, HB.out⟩
  | true =>
    rw [hst] at hsm
    have HSM := Lib.hid hsm; clear hsm
    have hsz := size_small (same_facts hst).1
    have htz := size_same hst
    have HTZ := Lib.hid htz
    rw [show mixS true s t = ⟨(mixN true s.data.toList t.data.toList s.size).toArray⟩ from by unfold mixS; rw [mix_yes hst, HSL.out]]
    have HMS := Lib.hid (fun k (h : k < s.size) => mf_step true s.data.toList t.data.toList k (by rw [HSL.out]; exact h) (by have := HTZ.out; simp; omega))
    have HMX := Lib.hid (fun k => show mf true s.data.toList t.data.toList k = pick true (ff s.data.toList k) (ff t.data.toList k) from rfl)
    clear hst htz
    go_enter Tryd.func66, Tryd.ntmps66
    go_wp2_with fail
    refine (HSM.out _).mono ?_
    rintro e w1 ⟨rfl, hb⟩
    have HB := Lib.hid hb; clear hb
    go_wp2_with fail
    go_loopw [7, 8, 9] (fun x y i wr => ∃ k : Nat, 1 ≤ k ∧ k ≤ s.size + 1 ∧ i = .int .i64 (k : Int) ∧ x = .string ⟨(mixN true s.data.toList t.data.toList (k - 1)).toArray⟩ ∧ y = .int .i64 (mf true s.data.toList t.data.toList (k - 1) : Int) ∧ Hid (Below w.heap.size w wr)) (fun _ _ i _ => s.size + 1 - (intOf i).toNat)
    case atStart => exact ⟨1, Nat.le_refl _, by omega, rfl, rfl, by rw [mf_zero]; rfl, HB⟩
    case round =>
      obtain ⟨k, h1, hk, rfl, rfl, rfl, HBR⟩ := hrel
      obtain ⟨j, hj⟩ : ∃ j, k = j + 1 := ⟨k - 1, by omega⟩
      have hj1 : k - 1 = j := by omega
      rw [hj1]
      have HJ := Lib.hid hj
      clear hj hj1
      by_cases hlt : k ≤ s.size
      · have hjl : j < s.size := by have := HJ.out; omega
        have hkt : k ≤ t.size := by have := HTZ.out; omega
        have hk0 : (0 : Int) ≤ (k : Int) := Int.natCast_nonneg _
        have hk1 : (k : Int) ≤ (s.size : Int) := by omega
        have hk2 : (k : Int) ≤ (t.size : Int) := by omega
        have hst := HMS.out j hjl
        have hx1 := HMX.out k
        unfold pick at hx1
        simp only [if_true] at hx1
        have hsn := mixN_succ true s.data.toList t.data.toList j
        have hml := mixN_length true s.data.toList t.data.toList j
        rw [← HJ.out] at hst hsn
        have hA : cnt 102 (List.take k s.data.toList) = ff s.data.toList k := rfl
        have hB : cnt 102 (List.take k t.data.toList) = ff t.data.toList k := rfl
        have hm16 : mf true s.data.toList t.data.toList k ≤ 64 := by
          have h1 := ff_le s.data.toList k
          have h2 := ff_le t.data.toList k
          omega
        have HL1 := Lib.hid (show (mixN true s.data.toList t.data.toList j).length ≤ 16 from by rw [hml]; omega)
        generalize hfa1 : ff s.data.toList k = fa1 at *
        generalize hfb1 : ff t.data.toList k = fb1 at *
        generalize hmj : mf true s.data.toList t.data.toList j = m at *
        obtain ⟨m1, hm1⟩ : ∃ m1, mf true s.data.toList t.data.toList k = m1 := ⟨_, rfl⟩
        rw [hm1] at hst hx1 hm16 hsn
        have HM1 := Lib.hid hm1
        have HSN := Lib.hid hsn
        have hlz := HL1.out
        clear hm1 hsn hml hfa1 hfb1 hmj
        generalize mixN true s.data.toList t.data.toList j = l at *
        have HCF := Lib.hid (cat_lists2 l [102])
        have HCD := Lib.hid (cat_lists2 l [100])
        have hmx : max (fa1 : Int) (fb1 : Int) = (m1 : Int) := by omega
        clear hx1 HL1
        go_wp2_with fail
        go_quiet ((first | (go_at_call 33; refine qsame (count_one _ _)) | (go_at_call 67; refine qsame (max_at _ _ _))))
        have HBQ := Lib.hid (fun n => HBR.out.trans ((Strip.below_drewN wr n).mono HBR.out.size))
        by_cases hq : m < m1
        · have HS := Lib.hid (show mixN true s.data.toList t.data.toList k = l ++ [102] from by rw [HSN.out, if_pos hq])
          clear hst
          go_wp2
          go_roundw
          case rel => exact ⟨k + 1, by omega, by omega, by go_num, by rw [Nat.add_sub_cancel, HS.out, ← HCF.out], by rw [Nat.add_sub_cancel, HM1.out]; first | rfl | exact congrArg _ hmx, HBQ.out _⟩
          case measure => simp [intOf]; omega
        · have HS := Lib.hid (show mixN true s.data.toList t.data.toList k = l ++ [100] from by rw [HSN.out, if_neg hq])
          clear hst
          go_wp2
          go_roundw
          case rel => exact ⟨k + 1, by omega, by omega, by go_num, by rw [Nat.add_sub_cancel, HS.out, ← HCD.out], by rw [Nat.add_sub_cancel, HM1.out]; first | rfl | exact congrArg _ hmx, HBQ.out _⟩
          case measure => simp [intOf]; omega
      · obtain rfl : j = s.size := by have := HJ.out; omega
        go_wp2
        go_ret
        exact ⟨rfl, HBR.out⟩

theorem upper_impl (s t : ByteArray) (w : World) (hm : s.size ≤ 1048576) (hm' : t.size ≤ 1048576) :
    Calls Tryd.prog 63 #[.string s, .string t] w fun e w' => e = .returned (.string (mixS true s t)) ∧ Below w.heap.size w w' := by
  go_enter Tryd.func63, Tryd.ntmps63
  go_wp2_with fail
  refine (combine_true s t _ hm hm').mono ?_
  rintro e w1 ⟨rfl, hb⟩
  have HB := Lib.hid hb; clear hb
  go_wp2
  go_ret
  exact ⟨rfl, HB.out⟩

theorem above_str (s t : ByteArray) : aboveB s.data.toList t.data.toList = (sameB s.data.toList t.data.toList && ((mixS true s t).toList == s.toList)) := by
  rw [above_is, list_beq]
  congr 1
  rw [Bool.eq_iff_iff, decide_eq_true_eq, decide_eq_true_eq]
  constructor
  · intro h; exact of_list h
  · intro h; rw [← mixS_list, h]
theorem above_impl (s t : ByteArray) (w : World) (hm : s.size ≤ 1048576) (hm' : t.size ≤ 1048576) :
    Calls Tryd.prog 50 #[.string s, .string t] w fun e w' => e = .returned (.bool (aboveB s.data.toList t.data.toList)) ∧ Below w.heap.size w w' := by
  have hsm := fun w => same_impl s t w hm hm'
  have hup := fun w => upper_impl s t w hm hm'
  rw [above_str]
  generalize sameB s.data.toList t.data.toList = x at *
  generalize mixS true s t = u at *
  have HSM := Lib.hid hsm
  have HUP := Lib.hid hup
  clear hsm hup
  cases x with
  | false =>
    go_enter Tryd.func50, Tryd.ntmps50
    go_wp2_with fail
    refine (HSM.out _).mono ?_
    rintro e w1 ⟨rfl, hb⟩
    have HB := Lib.hid hb; clear hb
    go_wp2
    go_ret
    exact ⟨rfl, HB.out⟩
  | true =>
    go_enter Tryd.func50, Tryd.ntmps50
    go_wp2_with fail
    refine (HSM.out _).mono ?_
    rintro e w1 ⟨rfl, hb⟩
    have HB := Lib.hid hb; clear hb
    go_wp2_with fail
    refine (HUP.out _).mono ?_
    rintro e w2 ⟨rfl, hb⟩
    have HB2 := Lib.hid (HB.out.trans (hb.mono HB.out.size)); clear hb
    go_wp2
    go_ret
    refine ⟨?_, HB2.out⟩
    simp

end Go.Proofs.YthigiemgdejdhaaDoor.Order
