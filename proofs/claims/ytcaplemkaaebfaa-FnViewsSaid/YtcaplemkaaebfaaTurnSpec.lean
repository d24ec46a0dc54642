/- What the model of chapter 12 returns: TurnStrip, IsBalanced, CountBalanced. -/
import Derived.Test.YtcaplemkaaebfaaTurnMath
import Derived.Test.YtcaplemkaaebfaaOrderSpec
namespace Go.Proofs.Ytcaplemkaaebfaa.Turn
open Go.ChangeShapes Go.WideShapes Go.ChangeAt Go.RowKit
open Go.Proofs.Ytcaplemkaaebfaa.Strip Go.Proofs.Ytcaplemkaaebfaa.Kerf Go.Proofs.Ytcaplemkaaebfaa.Order
set_option linter.unusedVariables false

theorem turnS_no {s : ByteArray} (h : stripB s.data.toList = false) : turnS s = ⟨#[]⟩ := by unfold turnS; rw [turn_no h]
theorem turnS_yes {s : ByteArray} (h : stripB s.data.toList = true) : turnS s = ⟨(turnN s.data.toList).toArray⟩ := by unfold turnS; rw [turn_yes h]
theorem turn_step (s : ByteArray) (j : Nat) (h : j < s.size) : turnN (s.data.toList.drop j) = turnN (s.data.toList.drop (j + 1)) ++ [if s[j] = 100 then 102 else 100] := by
  rw [turnN_drop _ j (by simpa using h)]
  rfl

theorem bal_cmp {s : ByteArray} (h : stripB s.data.toList = true) : ((turnS s).toList == s.toList) = balB s.data.toList := by rw [list_beq, bal_text h]
theorem bal_no {s : ByteArray} (h : stripB s.data.toList = false) : balB s.data.toList = false := by unfold balB; rw [h]; rfl

theorem bals_in {n : Int} (h : 1 ≤ n ∧ n ≤ 8) : n = 1 ∨ n = 2 ∨ n = 3 ∨ n = 4 ∨ n = 5 ∨ n = 6 ∨ n = 7 ∨ n = 8 := by omega
theorem bals_no {n : Int} (h : ¬ (1 ≤ n ∧ n ≤ 8)) : frameB n n = false := by
  unfold frameB
  rw [decide_eq_false_iff_not]
  omega

end Go.Proofs.Ytcaplemkaaebfaa.Turn
