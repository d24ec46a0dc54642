/- What LayerTable returns: rows of rows of ints. -/
import Derived.Test.YtbdeppbbgokfhaaViewSee
import Derived.Test.YtbdeppbbgokfhaaThickMath
namespace Go.Proofs.Ytbdeppbbgokfhaa.Thick
open Go.ChangeShapes Go.WideShapes Go.ChangeAt Go.RowKit
open Go.Proofs.Ytbdeppbbgokfhaa.Strip Go.Proofs.Ytbdeppbbgokfhaa.Ints Go.Proofs.Ytbdeppbbgokfhaa.Corner Go.Proofs.Ytbdeppbbgokfhaa.Strs Go.Proofs.Ytbdeppbbgokfhaa.Card Go.Proofs.Ytbdeppbbgokfhaa.Kerf Go.Proofs.Ytbdeppbbgokfhaa.Order
open Go.Proofs.Ytbdeppbbgokfhaa.View (rowsV rowsV_length)
set_option linter.unusedVariables false

def tabV (d f : Int) (l : List ByteArray) : List (List Int) := if cardB d f l = true then rowsV layL l else []
theorem tot_rowsT (l : List ByteArray) : tot (rowsV layL l) ≤ 16 * l.length := by
  induction l with
  | nil => exact Nat.le_refl _
  | cons s l ih =>
    have h1 := layL_le s.data.toList
    have h2 : tot (rowsV layL (s :: l)) = (layL s.data.toList).length + tot (rowsV layL l) := by simp [tot, rowsV]
    rw [h2, List.length_cons]
    omega
theorem tabs_tot (d f : Int) (l : List ByteArray) : 1 + tot (tabV d f l) ≤ 1000000 := by
  unfold tabV
  split
  · have h1 := tot_rowsT l
    have h2 := (cardB_iff.1 ‹_›).2.2.1
    omega
  · decide
theorem tabs_short (d f : Int) (l : List ByteArray) : (tabV d f l).length ≤ 1000000 := by
  unfold tabV
  split
  · have h2 := (cardB_iff.1 ‹_›).2.2.1
    rw [rowsV_length]
    omega
  · decide
end Go.Proofs.Ytbdeppbbgokfhaa.Thick
