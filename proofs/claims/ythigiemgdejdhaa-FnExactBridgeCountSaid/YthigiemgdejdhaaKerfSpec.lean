/- What the model of chapter 7 returns: CutsBetween, l07Heights, AreaBetween. -/
import Derived.Test.YthigiemgdejdhaaKerfMath
import Derived.Test.YthigiemgdejdhaaCornerSpec
namespace Go.Proofs.Ythigiemgdejdhaa.Kerf
open Go.ChangeShapes Go.WideShapes Go.ChangeAt Go.RowKit
open Go.Proofs.Ythigiemgdejdhaa.Strip Go.Proofs.Ythigiemgdejdhaa.Ints Go.Proofs.Ythigiemgdejdhaa.Corner
set_option linter.unusedVariables false

theorem cuts_no {a b : List UInt8} (h : sameB a b = false) : cutsL a b = [] := by unfold cutsL; rw [h]; rfl
theorem cuts_yes {a b : List UInt8} (h : sameB a b = true) : cutsL a b = cutN a b a.length := by unfold cutsL; rw [h]; rfl
theorem list_at (s : ByteArray) (k : Nat) (h : k < s.size) : s.data.toList.getD k 0 = s[k] := by
  have hl : k < s.data.toList.length := by simpa using h
  simp only [List.getD, List.getElem?_eq_getElem hl, Option.getD_some]
  rfl
theorem num_eq {a b : Nat} (h : a = b) : ((a : Int) != (b : Int)) = false := by subst h; simp
theorem num_ne {a b : Nat} (h : a ≠ b) : ((a : Int) != (b : Int)) = true := by
  simp only [bne_iff_ne, ne_eq, Int.natCast_inj]
  exact h
theorem cut_is (s t : ByteArray) (k : Nat) (h : k < s.size) (h' : k < t.size) : cutB s.data.toList t.data.toList k = !(decide (s[k] = t[k]) && decide (ff s.data.toList k = ff t.data.toList k)) := by
  unfold cutB; rw [list_at s k h, list_at t k h']
theorem ff_next (s : ByteArray) (k : Nat) (h : k < s.size) : ff s.data.toList (k + 1) = ff s.data.toList k + (if s[k] = 102 then 1 else 0) := by
  rw [ff_succ _ _ (by simpa using h), list_at s k h]

theorem cuts_short (a b : List UInt8) : (cutsL a b).length ≤ 1000000 := by
  cases h : sameB a b with
  | false => rw [cuts_no h]; simp
  | true =>
    rw [cuts_yes h]
    have h1 := cutN_le a b a.length
    have h2 := strip_size (same_facts h).1
    omega

end Go.Proofs.Ythigiemgdejdhaa.Kerf
