/- The law of CardOk: the walk. -/
import Derived.Test.YtfhpbgmnekhfeaaCardSz
import Derived.Test.YtfhpbgmnekhfeaaCardLaw
import Derived.Test.YtfhpbgmnekhfeaaCardImpl2
namespace Go.Proofs.Ytfhpbgmnekhfeaa.Card
open Go.ChangeShapes Go.WideShapes Go.ChangeAt Go.RowKit
open Go.Proofs.Ytfhpbgmnekhfeaa.Strip Go.Proofs.Ytfhpbgmnekhfeaa.Strs
set_option linter.unusedVariables false

/-- Too great an argument: the law returns true at once. -/
theorem sz_big {l : List ByteArray} (h : szV 1048576 l < 0) : szV 1048576 l = -1 := by unfold szV at *; split at h <;> omega

end Go.Proofs.Ytfhpbgmnekhfeaa.Card
