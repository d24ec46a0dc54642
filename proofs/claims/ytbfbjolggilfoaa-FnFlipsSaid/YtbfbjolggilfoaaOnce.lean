/- What spec.l01Once returns. -/
import Derived.Test.YtbfbjolggilfoaaDraw
namespace Go.Proofs.Ytbfbjolggilfoaa.Draw
open Go.ChangeShapes Go.WideShapes Go.ChangeAt Go.RowKit
set_option linter.unusedVariables false

end Go.Proofs.Ytbfbjolggilfoaa.Draw
