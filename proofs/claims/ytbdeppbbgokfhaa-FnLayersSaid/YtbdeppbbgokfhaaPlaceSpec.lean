/- What the model of chapter 4 returns. -/
import Derived.Test.YtbdeppbbgokfhaaPlaceMath
namespace Go.Proofs.Ytbdeppbbgokfhaa.Place
open Go.ChangeShapes Go.WideShapes Go.ChangeAt Go.RowKit
open Go.Proofs.Ytbdeppbbgokfhaa.Strip
set_option linter.unusedVariables false

theorem op_cases (op : Int) : op = 0 ∨ op = 1 ∨ op = 2 ∨ opB op = false := by
  unfold opB
  by_cases h : 0 ≤ op ∧ op ≤ 2
  · omega
  · right; right; right; exact decide_eq_false h

end Go.Proofs.Ytbdeppbbgokfhaa.Place
