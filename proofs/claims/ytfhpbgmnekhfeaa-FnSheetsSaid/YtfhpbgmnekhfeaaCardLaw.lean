/- What the walks of chapter 5's exact laws have in common. -/
import Derived.Test.YtfhpbgmnekhfeaaCardEq
namespace Go.Proofs.Ytfhpbgmnekhfeaa.Card
open Go.ChangeShapes Go.WideShapes Go.ChangeAt Go.RowKit
open Go.Proofs.Ytfhpbgmnekhfeaa.Strip Go.Proofs.Ytfhpbgmnekhfeaa.Strs
set_option linter.unusedVariables false

theorem Var.mark {w w' : World} {b : Nat} {d f : Int} {v v2 : Value} (h : Var w b d f v) (hg : w.grownBy w' v2.ownBlock) (hne : ∀ k, v2.ownBlock = some k → b ≠ k) : Var w' b d f v :=
  h.grown hg (fun e => hne b e.symm rfl)
theorem Own.mark {w w' : World} {base : Nat} {v v2 : Value} {l : List ByteArray} (h : Own w base v l) (hg : w.grownBy w' v2.ownBlock) (hne : ∀ k k2, v.ownBlock = some k → v2.ownBlock = some k2 → k ≠ k2) : Own w' base v l :=
  World.ownsRow.kept h hg (by
    cases hb : v.ownBlock with
    | none => exact .inl rfl
    | some b => right; exact fun e => hne b b hb e.symm rfl)

/-- Block b is a variable that holds a card of the laws' own type. -/
def LVar (w : World) (b : Nat) (d f : Int) (v : Value) : Prop := w.heap[b]? = some (.cells #[.int .i64 d, .int .i64 f, v] 37 (0, 0))
theorem LVar.new (w : World) (d f : Int) (v : Value) : LVar (w.alloc (.cells #[.int .i64 d, .int .i64 f, v] 37)) w.heap.size d f v := heap_alloc_new w _
theorem LVar.lt {w : World} {b : Nat} {d f : Int} {v : Value} (h : LVar w b d f v) : b < w.heap.size := (Array.getElem?_eq_some_iff.1 h).1
theorem LVar.below {w w' : World} {b : Nat} {d f : Int} {v : Value} (h : LVar w b d f v) (hb : Below w.heap.size w w') : LVar w' b d f v := (hb.block b h.lt).trans h
theorem LVar.mark {w w' : World} {b : Nat} {d f : Int} {v v2 : Value} (h : LVar w b d f v) (hg : w.grownBy w' v2.ownBlock) (hne : ∀ k, v2.ownBlock = some k → b ≠ k) : LVar w' b d f v :=
  (hg.block b h.lt (fun e => hne b e.symm rfl)).trans h
theorem LVar.cells {w : World} {b : Nat} {d f : Int} {v : Value} (h : LVar w b d f v) : w.cell? ⟨b, 0, none⟩ = some (.int .i64 d) ∧ w.cell? ⟨b, 1, none⟩ = some (.int .i64 f) ∧ w.cell? ⟨b, 2, none⟩ = some v := by
  unfold LVar at h
  simp [World.cell?, h]

section
variable {w0 w' w'' : World} {p1 p2 p3 p4 p5 p6 : Addr} {u1 u2 u3 u4 u5 u6 : Value}
theorem eqs_next (h : w'.cell? p1 = some u1 ∧ w'.cell? p2 = some u2 ∧ w'.cell? p3 = some u3 ∧ w'.cell? p4 = some u4 ∧ w'.cell? p5 = some u5 ∧ w'.cell? p6 = some u6 ∧ Below w0.heap.size w0 w') (hb : Below w'.heap.size w' w'') :
    w''.cell? p1 = some u1 ∧ w''.cell? p2 = some u2 ∧ w''.cell? p3 = some u3 ∧ w''.cell? p4 = some u4 ∧ w''.cell? p5 = some u5 ∧ w''.cell? p6 = some u6 ∧ Below w0.heap.size w0 w'' := by
  obtain ⟨h1, h2, h3, h4, h5, h6, h7⟩ := h
  have k : ∀ {p : Addr} {u : Value}, w'.cell? p = some u → w''.cell? p = some u := fun {p u} e => (hb.cell (p := p) (World.block_lt_of_cell? _ _ e)).trans e
  exact ⟨k h1, k h2, k h3, k h4, k h5, k h6, h7.trans (hb.mono h7.size)⟩
theorem eqs_drew (h : w'.cell? p1 = some u1 ∧ w'.cell? p2 = some u2 ∧ w'.cell? p3 = some u3 ∧ w'.cell? p4 = some u4 ∧ w'.cell? p5 = some u5 ∧ w'.cell? p6 = some u6 ∧ Below w0.heap.size w0 w') :
    w'.drew.cell? p1 = some u1 ∧ w'.drew.cell? p2 = some u2 ∧ w'.drew.cell? p3 = some u3 ∧ w'.drew.cell? p4 = some u4 ∧ w'.drew.cell? p5 = some u5 ∧ w'.drew.cell? p6 = some u6 ∧ Below w0.heap.size w0 w'.drew :=
  ⟨h.1, h.2.1, h.2.2.1, h.2.2.2.1, h.2.2.2.2.1, h.2.2.2.2.2.1, h.2.2.2.2.2.2.drew⟩
theorem eqs_below (h : w'.cell? p1 = some u1 ∧ w'.cell? p2 = some u2 ∧ w'.cell? p3 = some u3 ∧ w'.cell? p4 = some u4 ∧ w'.cell? p5 = some u5 ∧ w'.cell? p6 = some u6 ∧ Below w0.heap.size w0 w') : Below w0.heap.size w0 w' := h.2.2.2.2.2.2
end
end Go.Proofs.Ytfhpbgmnekhfeaa.Card
