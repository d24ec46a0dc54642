/- The law of CardOk: the walk. -/
import Derived.Test.YtigakakgikcghaaCardSz
import Derived.Test.YtigakakgikcghaaCardLaw
import Derived.Test.YtigakakgikcghaaCardImpl2
namespace Go.Proofs.Ytigakakgikcghaa.Card
open Go.ChangeShapes Go.WideShapes Go.ChangeAt Go.RowKit
open Go.Proofs.Ytigakakgikcghaa.Strip Go.Proofs.Ytigakakgikcghaa.Strs
set_option linter.unusedVariables false

/-- Too great an argument: the law returns true at once. -/
theorem sz_big {l : List ByteArray} (h : szV 1048576 l < 0) : szV 1048576 l = -1 := by unfold szV at *; split at h <;> omega

end Go.Proofs.Ytigakakgikcghaa.Card
