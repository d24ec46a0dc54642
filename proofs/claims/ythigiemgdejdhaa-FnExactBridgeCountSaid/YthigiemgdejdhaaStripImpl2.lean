/- What the program of chapter 2 returns: SameFrame, StripAt. -/
import Derived.Test.YthigiemgdejdhaaStripImpl
namespace Go.Proofs.Ythigiemgdejdhaa.Strip
open Go.ChangeShapes Go.WideShapes Go.ChangeAt Go.RowKit
set_option linter.unusedVariables false

theorem same_num (a b : List UInt8) (ha : stripB a = true) (hb : stripB b = true) :
    sameB a b = (((cnt 100 a : Int) == (cnt 100 b : Int)) && ((cnt 102 a : Int) == (cnt 102 b : Int))) := by
  unfold sameB
  rw [ha, hb, Bool.eq_iff_iff]
  simp
  omega

end Go.Proofs.Ythigiemgdejdhaa.Strip
