/- Symmetric cards: what is said of them; three cells that are kept in a region that draws. -/
import Derived.Test.YtoampghmikamlaaTurnCard
import Derived.Test.YtoampghmikamlaaOrderCard
import Derived.Lib.QuietBelow
namespace Go.Proofs.Ytoampghmikamlaa.Turn
open Go.ChangeShapes Go.WideShapes Go.ChangeAt Go.RowKit Go.Sort
open Go.Proofs.Ytoampghmikamlaa.Strip Go.Proofs.Ytoampghmikamlaa.Strs Go.Proofs.Ytoampghmikamlaa.Card Go.Proofs.Ytoampghmikamlaa.Order
set_option linter.unusedVariables false

/-- What IsSymmetric returns. -/
def symB (d f : Int) (l : List ByteArray) : Bool := cardB d f l && decide (l.reverse = l)
theorem sym_no {d f : Int} {l : List ByteArray} (h : cardB d f l = false) : symB d f l = false := by unfold symB; rw [h]; rfl
theorem sym_yes {d f : Int} {l : List ByteArray} (h : cardB d f l = true) : sameC d f l.reverse d f l = symB d f l ∧ sameC d f l d f l.reverse = symB d f l := by
  unfold symB sameC
  rw [h, Bool.true_and]
  constructor
  · simp
  · rw [Bool.eq_iff_iff, decide_eq_true_eq, decide_eq_true_eq]
    exact ⟨fun h => h.2.2.symm, fun h => ⟨rfl, rfl, h.symm⟩⟩
theorem gave_in {w w' : World} {d f : Int} {l : List ByteArray} {n : Nat} {e : Ending} (hn : l.length = n) (h : GaveIf true w d f l e w') :
    ∃ a c, e = .returned (.agg #[.int .i64 d, .int .i64 f, .slice a n c]) ∧ Below w.heap.size w w' ∧ Own w' w.heap.size (.slice a n c) l := by
  subst hn
  exact h

section
variable {w0 w' w'' : World} {p1 p2 p3 : Addr} {u1 u2 u3 : Value}
theorem th_next (h : w'.cell? p1 = some u1 ∧ w'.cell? p2 = some u2 ∧ w'.cell? p3 = some u3 ∧ Below w0.heap.size w0 w') (hb : Below w'.heap.size w' w'') :
    w''.cell? p1 = some u1 ∧ w''.cell? p2 = some u2 ∧ w''.cell? p3 = some u3 ∧ Below w0.heap.size w0 w'' :=
  ⟨(hb.cell (World.block_lt_of_cell? _ _ h.1)).trans h.1, (hb.cell (World.block_lt_of_cell? _ _ h.2.1)).trans h.2.1, (hb.cell (World.block_lt_of_cell? _ _ h.2.2.1)).trans h.2.2.1, h.2.2.2.trans (hb.mono h.2.2.2.size)⟩
theorem th_drew (h : w'.cell? p1 = some u1 ∧ w'.cell? p2 = some u2 ∧ w'.cell? p3 = some u3 ∧ Below w0.heap.size w0 w') :
    w'.drew.cell? p1 = some u1 ∧ w'.drew.cell? p2 = some u2 ∧ w'.drew.cell? p3 = some u3 ∧ Below w0.heap.size w0 w'.drew := ⟨h.1, h.2.1, h.2.2.1, h.2.2.2.drew⟩
theorem th_of (h : w0.cell? p1 = some u1 ∧ w0.cell? p2 = some u2 ∧ w0.cell? p3 = some u3 ∧ Below w0.heap.size w0 w0) (hb : Below w0.heap.size w0 w') :
    w'.cell? p1 = some u1 ∧ w'.cell? p2 = some u2 ∧ w'.cell? p3 = some u3 ∧ Below w0.heap.size w0 w' :=
  ⟨(hb.cell (World.block_lt_of_cell? _ _ h.1)).trans h.1, (hb.cell (World.block_lt_of_cell? _ _ h.2.1)).trans h.2.1, (hb.cell (World.block_lt_of_cell? _ _ h.2.2.1)).trans h.2.2.1, hb⟩
theorem th_below (h : w'.cell? p1 = some u1 ∧ w'.cell? p2 = some u2 ∧ w'.cell? p3 = some u3 ∧ Below w0.heap.size w0 w') : Below w0.heap.size w0 w' := h.2.2.2
end
end Go.Proofs.Ytoampghmikamlaa.Turn
