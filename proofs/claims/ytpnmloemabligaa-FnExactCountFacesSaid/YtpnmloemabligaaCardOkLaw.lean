/- The law of CardOk: the walk. -/
import Derived.Test.YtpnmloemabligaaCardSz
import Derived.Test.YtpnmloemabligaaCardLaw
import Derived.Test.YtpnmloemabligaaCardImpl2
namespace Go.Proofs.Ytpnmloemabligaa.Card
open Go.ChangeShapes Go.WideShapes Go.ChangeAt Go.RowKit
open Go.Proofs.Ytpnmloemabligaa.Strip Go.Proofs.Ytpnmloemabligaa.Strs
set_option linter.unusedVariables false

/-- Too great an argument: the law returns true at once. -/
theorem sz_big {l : List ByteArray} (h : szV 1048576 l < 0) : szV 1048576 l = -1 := by unfold szV at *; split at h <;> omega

end Go.Proofs.Ytpnmloemabligaa.Card
