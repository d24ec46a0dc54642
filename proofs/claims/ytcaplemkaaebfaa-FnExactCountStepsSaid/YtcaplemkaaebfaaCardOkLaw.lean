/- The law of CardOk: the walk. -/
import Derived.Test.YtcaplemkaaebfaaCardSz
import Derived.Test.YtcaplemkaaebfaaCardLaw
import Derived.Test.YtcaplemkaaebfaaCardImpl2
namespace Go.Proofs.Ytcaplemkaaebfaa.Card
open Go.ChangeShapes Go.WideShapes Go.ChangeAt Go.RowKit
open Go.Proofs.Ytcaplemkaaebfaa.Strip Go.Proofs.Ytcaplemkaaebfaa.Strs
set_option linter.unusedVariables false

/-- Too great an argument: the law returns true at once. -/
theorem sz_big {l : List ByteArray} (h : szV 1048576 l < 0) : szV 1048576 l = -1 := by unfold szV at *; split at h <;> omega

end Go.Proofs.Ytcaplemkaaebfaa.Card
