/- The law of CardOk: the walk. -/
import Derived.Test.YtbdeppbbgokfhaaCardSz
import Derived.Test.YtbdeppbbgokfhaaCardLaw
import Derived.Test.YtbdeppbbgokfhaaCardImpl2
namespace Go.Proofs.Ytbdeppbbgokfhaa.Card
open Go.ChangeShapes Go.WideShapes Go.ChangeAt Go.RowKit
open Go.Proofs.Ytbdeppbbgokfhaa.Strip Go.Proofs.Ytbdeppbbgokfhaa.Strs
set_option linter.unusedVariables false

/-- Too great an argument: the law returns true at once. -/
theorem sz_big {l : List ByteArray} (h : szV 1048576 l < 0) : szV 1048576 l = -1 := by unfold szV at *; split at h <;> omega

end Go.Proofs.Ytbdeppbbgokfhaa.Card
