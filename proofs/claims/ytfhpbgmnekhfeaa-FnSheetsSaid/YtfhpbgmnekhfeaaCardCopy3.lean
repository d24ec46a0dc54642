/- What slices.Clone and impl.copyCard return. -/
import Derived.Test.YtfhpbgmnekhfeaaCardCopy2
import Derived.Test.YtfhpbgmnekhfeaaKit
namespace Go.Proofs.Ytfhpbgmnekhfeaa.Card
open Go.ChangeShapes Go.WideShapes Go.ChangeAt Go.RowKit
open Go.Proofs.Ytfhpbgmnekhfeaa.Strip Go.Proofs.Ytfhpbgmnekhfeaa.Strs
set_option linter.unusedVariables false

/-- What a function of rows of strings returned: a row of memory of its own. -/
def GaveRow (w : World) (l : List ByteArray) (e : Ending) (w' : World) : Prop :=
  ∃ a c, e = .returned (.slice a l.length c) ∧ Below w.heap.size w w' ∧ Own w' w.heap.size (.slice a l.length c) l

theorem gaveRow_of {w w' : World} {l : List ByteArray} {v : Value} {e : Ending} (he : e = .returned v) (ho : Own w' w.heap.size v l) (hb : Below w.heap.size w w') : GaveRow w l e w' := by
  obtain ⟨a, c, rfl, _, _⟩ := ho.row
  exact ⟨a, c, he, hb, ho⟩

theorem undrew {W w1 : World} (h : Below W.drew.heap.size W.drew w1) : Below W.heap.size W w1 := ((Below.refl W.heap.size W).drew).trans h

end Go.Proofs.Ytfhpbgmnekhfeaa.Card
