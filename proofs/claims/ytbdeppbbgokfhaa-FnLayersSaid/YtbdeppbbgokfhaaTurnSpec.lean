/- What the model of chapter 12 returns: TurnStrip, IsBalanced, CountBalanced. -/
import Derived.Test.YtbdeppbbgokfhaaTurnMath
import Derived.Test.YtbdeppbbgokfhaaOrderSpec
namespace Go.Proofs.Ytbdeppbbgokfhaa.Turn
open Go.ChangeShapes Go.WideShapes Go.ChangeAt Go.RowKit
open Go.Proofs.Ytbdeppbbgokfhaa.Strip Go.Proofs.Ytbdeppbbgokfhaa.Kerf Go.Proofs.Ytbdeppbbgokfhaa.Order
set_option linter.unusedVariables false

theorem turnS_no {s : ByteArray} (h : stripB s.data.toList = false) : turnS s = ⟨#[]⟩ := by unfold turnS; rw [turn_no h]
theorem turnS_yes {s : ByteArray} (h : stripB s.data.toList = true) : turnS s = ⟨(turnN s.data.toList).toArray⟩ := by unfold turnS; rw [turn_yes h]
theorem turn_step (s : ByteArray) (j : Nat) (h : j < s.size) : turnN (s.data.toList.drop j) = turnN (s.data.toList.drop (j + 1)) ++ [if s[j] = 100 then 102 else 100] := by
  rw [turnN_drop _ j (by simpa using h)]
  rfl

set_option maxRecDepth 100000 in
set_option maxHeartbeats 2000000 in
theorem turn_spec (s : ByteArray) (w : World) (hm : s.size ≤ 1048576) :
    Calls Try.prog 27 #[.string s] w fun e w' => e = .returned (.string (turnS s)) ∧ w = w' := by
  have hsl : s.data.toList.length = s.size := by simp
  have HSL := Lib.hid hsl; clear hsl
  cases hs : stripB s.data.toList with
  | false =>
    rw [turnS_no hs]
    go_enter Try.func27, Try.ntmps27
    go_wp2_with fail
    refine (is_spec s _ hm).mono ?_
    rintro e w' ⟨rfl, rfl⟩
    rw [hs]
    go_wp2
    go_ret
    exact ⟨rfl, rfl⟩
  | true =>
    have hz := size_small hs
    rw [turnS_yes hs]
    go_enter Try.func27, Try.ntmps27
    go_wp2_with fail
    refine (is_spec s _ hm).mono ?_
    rintro e w' ⟨rfl, rfl⟩
    rw [hs]
    go_wp2_with fail
    go_loop [3, 4] (fun x i => ∃ (m : Nat) (z : Int), m ≤ s.size ∧ i = .int .i64 z ∧ z = (m : Int) - 1 ∧ x = .string ⟨(turnN (s.data.toList.drop m)).toArray⟩) (fun _ i => (intOf i + 1).toNat)
    case atStart => exact ⟨s.size, _, Nat.le_refl _, rfl, rfl, by rw [List.drop_eq_nil_of_le (by rw [HSL.out]; exact Nat.le_refl _)]; rfl⟩
    case round =>
      obtain ⟨m, z, hm1, rfl, hz1, rfl⟩ := hrel
      have hlz : (turnN (s.data.toList.drop m)).length ≤ 16 := by rw [turnN_length, List.length_drop, HSL.out]; omega
      cases m with
      | zero =>
        obtain rfl : z = -1 := by omega
        rw [List.drop_zero] at hlz ⊢
        clear hz1 hm1
        go_wp2
        go_ret
        exact ⟨rfl, rfl⟩
      | succ j =>
        obtain rfl : z = (j : Int) := by omega
        have hjl : j < s.size := by omega
        have HN := Lib.hid (turn_step s j hjl)
        generalize turnN (s.data.toList.drop (j + 1)) = l at *
        have HCF := Lib.hid (cat_lists2 l [102])
        have HCD := Lib.hid (cat_lists2 l [100])
        have hk0 : (0 : Int) ≤ (j : Int) := Int.natCast_nonneg _
        have hk1 : (j : Int) < (s.size : Int) := by omega
        clear hz1 hm1
        by_cases he : s[j] = 100
        · have hb : ((s[j].toNat : Int) == 100) = true := byte_eq _ 100 he
          have HS := Lib.hid (HN.out.trans (by rw [if_pos he]))
          clear HN
          go_wp2
          exact ⟨⟨j, (j : Int) - 1, by omega, by go_num, rfl, by rw [HS.out, ← HCF.out]⟩, by simp [intOf]⟩
        · have hb : ((s[j].toNat : Int) == 100) = false := byte_ne _ 100 he
          have HS := Lib.hid (HN.out.trans (by rw [if_neg he]))
          clear HN
          go_wp2
          exact ⟨⟨j, (j : Int) - 1, by omega, by go_num, rfl, by rw [HS.out, ← HCD.out]⟩, by simp [intOf]⟩

theorem bal_cmp {s : ByteArray} (h : stripB s.data.toList = true) : ((turnS s).toList == s.toList) = balB s.data.toList := by rw [list_beq, bal_text h]
theorem bal_no {s : ByteArray} (h : stripB s.data.toList = false) : balB s.data.toList = false := by unfold balB; rw [h]; rfl

theorem bals_in {n : Int} (h : 1 ≤ n ∧ n ≤ 8) : n = 1 ∨ n = 2 ∨ n = 3 ∨ n = 4 ∨ n = 5 ∨ n = 6 ∨ n = 7 ∨ n = 8 := by omega
theorem bals_no {n : Int} (h : ¬ (1 ≤ n ∧ n ≤ 8)) : frameB n n = false := by
  unfold frameB
  rw [decide_eq_false_iff_not]
  omega

end Go.Proofs.Ytbdeppbbgokfhaa.Turn
