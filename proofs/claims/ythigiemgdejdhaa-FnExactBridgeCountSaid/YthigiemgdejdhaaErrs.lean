/- The sentinel of chapter 16 (impl.errMisfit): what the row's condition gives of it, also in later worlds; errors.Is of it and of nil. -/
import Derived.Test.YthigiemgdejdhaaRows
import Derived.WalkKit
import Derived.ProofKit
import Derived.LaidEql
import Derived.Stop.LaidErr
import Derived.LaidMore
import Derived.MakeChecks
import Derived.OpenShut
import Derived.Below
import Derived.WalkSmall
import Derived.RowKitTokens
import Derived.Lib.Hide
namespace Go.Proofs.Ythigiemgdejdhaa.Errs
open Go.ChangeShapes Go.WideShapes Go.ChangeAt Go.RowKit
set_option linter.unusedVariables false

theorem starred : "*" ++ "errors.errorString" = "*errors.errorString" := by decide
end Go.Proofs.Ythigiemgdejdhaa.Errs
