/- What the model of chapter 15 returns: l15Crease, l15Text. -/
import Derived.Test.YtigakakgikcghaaCornerSpec
import Derived.Test.YtigakakgikcghaaCreaseMath
namespace Go.Proofs.Ytigakakgikcghaa.Crease
open Go.ChangeShapes Go.WideShapes Go.ChangeAt Go.RowKit
open Go.Proofs.Ytigakakgikcghaa.Strip Go.Proofs.Ytigakakgikcghaa.Corner
set_option linter.unusedVariables false

theorem crV_bool (s : ByteArray) (i : Int) (m : Nat) (hm : s.size = m + 1) (h0 : 0 < s.size) (hl : m < s.size) :
    crV s.data.toList i = if ((i == 0) && (s[0] == 102) || (i == (s.size : Int)) && (s[m] == 100)) = true then 2 else if cornerB 102 s.data.toList i = true then 1 else if cornerB 100 s.data.toList i = true then 2 else 0 := by
  have hsl : s.data.toList.length = s.size := by simp
  unfold crV
  rw [hsl, at_get s 0 h0, show s.size - 1 = m from by omega, at_get s m hl]
  simp

set_option maxRecDepth 100000 in
theorem cr_spec (s : ByteArray) (i : Int) (w : World) (hm : s.size ≤ 1048576) (h1 : 1 ≤ s.size) (hi0 : -9223372036854775808 ≤ i) (hi1 : i ≤ 9223372036854775807) :
    Calls Try.prog 43 #[.string s, .int .i64 i] w fun e w' => e = .returned (.int .i64 (crV s.data.toList i)) ∧ Below w.heap.size w w' := by
  obtain ⟨m, hm1⟩ : ∃ m, s.size = m + 1 := ⟨s.size - 1, by omega⟩
  have h0 : 0 < s.size := by omega
  have hl : m < s.size := by omega
  have q0 : (0 : Int) < (s.size : Int) := by omega
  have q1 : (0 : Int) ≤ (s.size : Int) - 1 := by omega
  have q2 : (s.size : Int) - 1 < (s.size : Int) := by omega
  have q3 : ((s.size : Int) - 1).toNat = m := by omega
  have HM := Lib.hid (fun w : World => mountain_spec s i w hm hi0 hi1)
  have HV := Lib.hid (fun w : World => valley_spec s i w hm hi0 hi1)
  have ha' : ((s[0].toNat : Int) == 102) = (s[0] == 102) := byte_beq _ 102
  have hb' : ((s[m].toNat : Int) == 100) = (s[m] == 100) := byte_beq _ 100
  rw [crV_bool s i m hm1 h0 hl]
  have hp : (i == 0) = true → (i == (s.size : Int)) = false := by
    intro h
    rw [beq_iff_eq] at h
    rw [beq_eq_false_iff_ne]
    omega
  generalize cornerB 102 s.data.toList i = A at *
  generalize cornerB 100 s.data.toList i = B at *
  generalize (s[0] == 102) = p at *
  generalize (s[m] == 100) = q at *
  have h5 : (i == 0) = true ∧ p = true ∧ (i == (s.size : Int)) = false ∨ (i == 0) = false ∧ (i == (s.size : Int)) = true ∧ q = true ∨ (i == 0) = true ∧ p = false ∧ (i == (s.size : Int)) = false ∨ (i == 0) = false ∧ (i == (s.size : Int)) = true ∧ q = false ∨ (i == 0) = false ∧ (i == (s.size : Int)) = false := by
    generalize (i == 0) = x at *
    generalize (i == (s.size : Int)) = y at *
    cases x <;> cases y <;> cases p <;> cases q <;> simp at hp ⊢
  clear hp hm1
  rcases h5 with ⟨e1, rfl, e3⟩ | ⟨e1, e3, rfl⟩ | ⟨e1, rfl, e3⟩ | ⟨e1, e3, rfl⟩ | ⟨e1, e3⟩
  · rw [e1]
    go_enter Try.func43, Try.ntmps43
    go_wp2
    go_ret
    exact ⟨rfl, Below.refl _ _⟩
  · rw [e1, e3]
    go_enter Try.func43, Try.ntmps43
    go_wp2
    go_ret
    exact ⟨rfl, Below.refl _ _⟩
  all_goals
    rw [e1, e3]
    simp only [Bool.and_false, Bool.or_false, Bool.false_eq_true, if_false, Bool.false_and]
    cases A
    · cases B
      · go_enter Try.func43, Try.ntmps43
        go_wp2_with fail
        refine (HM.out _).mono ?_
        rintro e w1 ⟨rfl, hb⟩
        have HB := Lib.hid hb; clear hb
        go_wp2_with fail
        refine (HV.out _).mono ?_
        rintro e w2 ⟨rfl, hb⟩
        have HB2 := Lib.hid (HB.out.trans (hb.mono HB.out.size)); clear hb
        go_wp2
        go_ret
        exact ⟨rfl, HB2.out⟩
      · go_enter Try.func43, Try.ntmps43
        go_wp2_with fail
        refine (HM.out _).mono ?_
        rintro e w1 ⟨rfl, hb⟩
        have HB := Lib.hid hb; clear hb
        go_wp2_with fail
        refine (HV.out _).mono ?_
        rintro e w2 ⟨rfl, hb⟩
        have HB2 := Lib.hid (HB.out.trans (hb.mono HB.out.size)); clear hb
        go_wp2
        go_ret
        exact ⟨rfl, HB2.out⟩
    · go_enter Try.func43, Try.ntmps43
      go_wp2_with fail
      refine (HM.out _).mono ?_
      rintro e w1 ⟨rfl, hb⟩
      have HB := Lib.hid hb; clear hb
      go_wp2
      go_ret
      exact ⟨rfl, HB.out⟩

set_option maxRecDepth 100000 in
theorem text_spec (s : ByteArray) (w : World) (hm : s.size ≤ 1048576) (h1 : 1 ≤ s.size) :
    Calls Try.prog 46 #[.string s] w fun e w' => e = .returned (.string ⟨(txt s.data.toList).toArray⟩) ∧ Below w.heap.size w w' := by
  have hsl : s.data.toList.length = s.size := by simp
  have HSL := Lib.hid hsl; clear hsl
  have HCR := Lib.hid (fun (i : Int) (w : World) (hi0 : -9223372036854775808 ≤ i) (hi1 : i ≤ 9223372036854775807) => cr_spec s i w hm h1 hi0 hi1)
  go_enter Try.func46, Try.ntmps46
  go_wp2_with fail
  go_loopw [3, 4] (fun v i wr => ∃ k : Nat, k ≤ s.size + 1 ∧ i = .int .i64 (k : Int) ∧ v = .string ⟨(txtN s.data.toList k).toArray⟩ ∧ Hid (Below w.heap.size w wr)) (fun _ i _ => s.size + 1 - (intOf i).toNat)
  case atStart => exact ⟨0, by omega, rfl, rfl, Below.refl _ _⟩
  case round =>
    obtain ⟨k, hk, rfl, rfl, HB⟩ := hrel
    have hk0 : (0 : Int) ≤ (k : Int) := Int.natCast_nonneg _
    by_cases hlt : k ≤ s.size
    · have hk1 : (k : Int) ≤ (s.size : Int) := by omega
      have HX := Lib.hid (fun w : World => HCR.out (k : Int) w (by omega) (by omega))
      have HT := Lib.hid (fun b h => txt_next s.data.toList k b h)
      obtain ⟨c0, c2⟩ := crV_in s.data.toList (k : Int)
      have h3 := crV_three s.data.toList (k : Int)
      generalize crV s.data.toList (k : Int) = c at *
      have hz := txt_size s.data.toList k
      have z0 : ((⟨#[46, 109, 118]⟩ : ByteArray).extract 0 1).size = 1 := rfl
      have z1 : ((⟨#[46, 109, 118]⟩ : ByteArray).extract 1 2).size = 1 := rfl
      have z2 : ((⟨#[46, 109, 118]⟩ : ByteArray).extract 2 3).size = 1 := rfl
      rcases h3 with rfl | rfl | rfl
      all_goals
        go_wp2_with fail
        refine (HX.out _).mono ?_
        rintro e w1 ⟨rfl, hb⟩
        have HB2 := Lib.hid (HB.out.trans (hb.mono HB.out.size)); clear hb
        go_wp2
        refine ⟨⟨k + 1, by omega, by go_num, ?_, HB2⟩, by simp [intOf]; omega⟩
        exact congrArg Value.string (HT.out _ rfl)
    · have hke : k = s.size + 1 := by omega
      have HV := Lib.hid (show txtN s.data.toList k = txt s.data.toList by unfold txt; rw [HSL.out, hke])
      rw [HV.out]
      go_wp2
      go_ret
      exact ⟨rfl, HB.out⟩
end Go.Proofs.Ytigakakgikcghaa.Crease
