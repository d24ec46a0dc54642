/- What laws.eqCard, markCard and heldCard return and leave alone. -/
import Derived.Test.YthigiemgdejdhaaCard
namespace Go.Proofs.Ythigiemgdejdhaa.Card
open Go.ChangeShapes Go.WideShapes Go.ChangeAt Go.RowKit
open Go.Proofs.Ythigiemgdejdhaa.Strip Go.Proofs.Ythigiemgdejdhaa.Strs
set_option linter.unusedVariables false

/-- The three cells of a card's variable are written. -/
def set3 (w : World) (b : Nat) (d f : Int) (v : Value) : World := ((w.setCell ⟨b, 0, none⟩ (.int .i64 d)).setCell ⟨b, 1, none⟩ (.int .i64 f)).setCell ⟨b, 2, none⟩ v
theorem Own.other {w : World} {base b j : Nat} {v u : Value} {l : List ByteArray} (h : Own w base v l) (hb : b < base) : Own (w.setCell ⟨b, j, none⟩ u) base v l :=
  World.ownsRow.kept h (grown_set w b j u) (by
    cases hc : v.ownBlock with
    | none => exact .inl rfl
    | some k => right; intro e; have := (h.lt k hc).1; cases e; omega)
theorem Own.other3 {w : World} {base b : Nat} {d f : Int} {v u : Value} {l : List ByteArray} (h : Own w base v l) (hb : b < base) : Own (Card.set3 w b d f u) base v l := Own.other (Own.other (Own.other h hb) hb) hb
theorem below_set3 {B b : Nat} {w0 w : World} {d f : Int} {u : Value} (h : Below B w0 w) (hb : B ≤ b) : Below B w0 (Card.set3 w b d f u) := ((h.setCell (p := ⟨b, 0, none⟩) hb _).setCell (p := ⟨b, 1, none⟩) hb _).setCell (p := ⟨b, 2, none⟩) hb _

end Go.Proofs.Ythigiemgdejdhaa.Card
