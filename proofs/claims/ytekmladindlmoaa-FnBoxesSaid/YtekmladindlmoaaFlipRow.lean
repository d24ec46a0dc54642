/- What the model of chapter 10 returns: RaisesOf. -/
import Derived.Test.YtekmladindlmoaaFlipSpec
namespace Go.Proofs.Ytekmladindlmoaa.Flip
open Go.ChangeShapes Go.WideShapes Go.ChangeAt Go.RowKit
open Go.Proofs.Ytekmladindlmoaa.Strip Go.Proofs.Ytekmladindlmoaa.Ints Go.Proofs.Ytekmladindlmoaa.Corner Go.Proofs.Ytekmladindlmoaa.Kerf Go.Proofs.Ytekmladindlmoaa.Order
set_option linter.unusedVariables false

theorem valleys_one (l : List UInt8) : valleysN l 1 = [] := by
  have h : cornerB 100 l ((0 : Nat) : Int) = false := corner_no _ _ _ (.inr (by omega))
  rw [valleys_no h]; rfl
theorem valleys_zero (l : List UInt8) : valleysN l 0 = [] := rfl
theorem valleys_len (l : List UInt8) (n : Nat) : (valleysN l n).length ≤ n := by
  unfold valleysN
  rw [List.length_map]
  exact Nat.le_trans (List.length_filter_le _ _) (by simp)

end Go.Proofs.Ytekmladindlmoaa.Flip
