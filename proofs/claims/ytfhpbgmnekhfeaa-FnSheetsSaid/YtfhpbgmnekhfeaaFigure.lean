/- A digit: what spec.l01Figure returns. -/
import Derived.Test.YtfhpbgmnekhfeaaBytes
import Derived.Deep.RegionHeld3
import Derived.Deep.AppendLies
import Derived.Deep.DrawnRows
import Derived.OwnWalk
namespace Go.Proofs.Ytfhpbgmnekhfeaa.Bytes
open Go.ChangeShapes Go.WideShapes Go.ChangeAt Go.RowKit
set_option linter.unusedVariables false

/-- A digit as a number: behind a name. -/
def digI (n : Int) : Int := ((digU n.toNat).toNat : Int)

end Go.Proofs.Ytfhpbgmnekhfeaa.Bytes
