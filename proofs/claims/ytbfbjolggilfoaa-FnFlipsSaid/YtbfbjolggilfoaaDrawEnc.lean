/- What spec.DrawEncodeHex returns and leaves alone. -/
import Derived.Test.YtbfbjolggilfoaaDrawText
namespace Go.Proofs.Ytbfbjolggilfoaa.Draw
open Go.ChangeShapes Go.WideShapes Go.ChangeAt Go.RowKit
set_option linter.unusedVariables false

end Go.Proofs.Ytbfbjolggilfoaa.Draw
