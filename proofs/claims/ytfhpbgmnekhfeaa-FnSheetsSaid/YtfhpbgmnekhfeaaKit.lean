/- No function of Go's library is called here by a contract. -/
import Derived.Test.YtfhpbgmnekhfeaaChecked
import Derived.WalkKit
import Derived.ProofKit
