/- The law of CardOk: the walk. -/
import Derived.Test.YtefeajnlogbilaaCardSz
import Derived.Test.YtefeajnlogbilaaCardLaw
import Derived.Test.YtefeajnlogbilaaCardImpl2
namespace Go.Proofs.Ytefeajnlogbilaa.Card
open Go.ChangeShapes Go.WideShapes Go.ChangeAt Go.RowKit
open Go.Proofs.Ytefeajnlogbilaa.Strip Go.Proofs.Ytefeajnlogbilaa.Strs
set_option linter.unusedVariables false

/-- Too great an argument: the law returns true at once. -/
theorem sz_big {l : List ByteArray} (h : szV 1048576 l < 0) : szV 1048576 l = -1 := by unfold szV at *; split at h <;> omega

end Go.Proofs.Ytefeajnlogbilaa.Card
