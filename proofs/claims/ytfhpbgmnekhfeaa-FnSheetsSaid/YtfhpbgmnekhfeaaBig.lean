/- What laws.big returns. -/
import Derived.Test.YtfhpbgmnekhfeaaChecked
import Derived.WalkKit
import Derived.ProofKit
import Derived.WalkLawsBesides
import Derived.IntWalk
namespace Go.Proofs.Ytfhpbgmnekhfeaa.Draw
open Go.ChangeShapes Go.WideShapes Go.ChangeAt Go.RowKit
set_option linter.unusedVariables false

theorem big_at (ca : Option Addr) (cl cc : Nat) (w : World) (hm : cl ≤ maxLen) :
    Calls Try.prog 9 #[.slice ca cl cc] w fun e w' => e = .returned (.bool (decide (1048576 < (cl : Int)))) ∧ w = w' := by
  unfold maxLen at hm
  go_enter Try.func9, Try.ntmps9
  go_wp2
  go_ret
  exact ⟨rfl, rfl⟩
end Go.Proofs.Ytfhpbgmnekhfeaa.Draw
