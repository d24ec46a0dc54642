/- No function of Go's library is called here by a contract. -/
import Derived.Test.YthigiemgdejdhaaChecked
import Derived.WalkKit
import Derived.ProofKit
