/- The law of CardOk: the walk. -/
import Derived.Test.YtekmladindlmoaaCardSz
import Derived.Test.YtekmladindlmoaaCardLaw
import Derived.Test.YtekmladindlmoaaCardImpl2
namespace Go.Proofs.Ytekmladindlmoaa.Card
open Go.ChangeShapes Go.WideShapes Go.ChangeAt Go.RowKit
open Go.Proofs.Ytekmladindlmoaa.Strip Go.Proofs.Ytekmladindlmoaa.Strs
set_option linter.unusedVariables false

/-- Too great an argument: the law returns true at once. -/
theorem sz_big {l : List ByteArray} (h : szV 1048576 l < 0) : szV 1048576 l = -1 := by unfold szV at *; split at h <;> omega

end Go.Proofs.Ytekmladindlmoaa.Card
