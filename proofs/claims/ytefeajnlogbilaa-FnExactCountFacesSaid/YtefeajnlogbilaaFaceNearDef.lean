/- Which tiles belong to a tile: the lists that joinedTo goes through. -/
import Derived.Test.YtefeajnlogbilaaFaceSpec
namespace Go.Proofs.Ytefeajnlogbilaa.Face
open Go.Proofs.Ytefeajnlogbilaa.Strip Go.Proofs.Ytefeajnlogbilaa.Strs Go.Proofs.Ytefeajnlogbilaa.Card
set_option linter.unusedVariables false

/-- The tiles of a tile's own strip that belong to it; those of the strips beside it. -/
def acc (Q : Int × Int → Bool) (c : List (Int × Int)) (j : Nat) : List (Int × Int) := (c.take j).filter Q
theorem acc_yes {Q : Int × Int → Bool} {c : List (Int × Int)} {j : Nat} {p : Int × Int} (hj : c[j]? = some p) (h : Q p = true) : acc Q c (j + 1) = acc Q c j ++ [p] := by
  unfold acc
  rw [List.take_add_one, hj, List.filter_append]
  simp [h]
theorem acc_no {Q : Int × Int → Bool} {c : List (Int × Int)} {j : Nat} {p : Int × Int} (hj : c[j]? = some p) (h : Q p = false) : acc Q c (j + 1) = acc Q c j := by
  unfold acc
  rw [List.take_add_one, hj, List.filter_append]
  simp [h]
def letQ (l : List ByteArray) (n : Nat) (x y : Int) (p : Int × Int) : Bool := decide (spS l n p.1 p.2 = spS l n x y)
def eqQ (l : List ByteArray) (n : Nat) (x y : Int) (p : Int × Int) : Bool := eqB l n p.1 p.2 x y
def nearL (l : List ByteArray) (n : Nat) (x y : Int) : List (Int × Int) := acc (letQ l n x y) [(x, y - 1), (x, y + 1)] 2 ++ acc (eqQ l n x y) [(x - 1, y), (x + 1, y)] 2

end Go.Proofs.Ytefeajnlogbilaa.Face
