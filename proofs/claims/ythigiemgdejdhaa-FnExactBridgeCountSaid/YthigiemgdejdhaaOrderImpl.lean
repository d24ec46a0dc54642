/- What the program of chapter 8 returns: greaterOf, lesserOf, combineStrips, UpperOf, LowerOf, IsAbove, AreComparable (printed by wip/gen_orderimpl.py). -/
import Derived.Test.YthigiemgdejdhaaOrderSpec
import Derived.Test.YthigiemgdejdhaaStripImpl2
import Derived.Test.YthigiemgdejdhaaKit
namespace Go.Proofs.Ythigiemgdejdhaa.Order
open Go.ChangeShapes Go.WideShapes Go.ChangeAt Go.RowKit
open Go.Proofs.Ythigiemgdejdhaa.Strip Go.Proofs.Ythigiemgdejdhaa.Kerf
set_option linter.unusedVariables false

theorem above_str (s t : ByteArray) : aboveB s.data.toList t.data.toList = (sameB s.data.toList t.data.toList && ((mixS true s t).toList == s.toList)) := by
  rw [above_is, list_beq]
  congr 1
  rw [Bool.eq_iff_iff, decide_eq_true_eq, decide_eq_true_eq]
  constructor
  · intro h; exact of_list h
  · intro h; rw [← mixS_list, h]
end Go.Proofs.Ythigiemgdejdhaa.Order
