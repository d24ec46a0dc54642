/- What the program of chapter 3 returns: RunsOf. -/
import Derived.Test.YtbfbjolggilfoaaCornerImpl
import Derived.Test.YtbfbjolggilfoaaCornerSpec2
namespace Go.Proofs.Ytbfbjolggilfoaa.Corner
open Go.ChangeShapes Go.WideShapes Go.ChangeAt Go.RowKit
open Go.Proofs.Ytbfbjolggilfoaa.Strip Go.Proofs.Ytbfbjolggilfoaa.Ints
set_option linter.unusedVariables false

end Go.Proofs.Ytbfbjolggilfoaa.Corner
