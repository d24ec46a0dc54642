/- What laws.at returns: a byte of the draw. -/
import Derived.Test.YtjjmeenapnemdaaDraw
namespace Go.Proofs.Ytjjmeenapnemdaa.Draw
open Go.ChangeShapes Go.WideShapes Go.ChangeAt Go.RowKit
set_option linter.unusedVariables false

theorem RowIn.below {w w' : World} {ca : Option Addr} {cl B : Nat} (h : RowIn w ca cl) (hb : Below B w w') (hB : w.heap.size ≤ B) : RowIn w' ca cl := by
  intro j hj
  obtain ⟨b, off, e, hlt, x, h0, h1, hx⟩ := h j hj
  exact ⟨b, off, e, Nat.lt_of_lt_of_le hlt hb.size, x, h0, h1, by rw [hb.cell (by show b < _; omega)]; exact hx⟩

end Go.Proofs.Ytjjmeenapnemdaa.Draw
