/- What spec.l05Copy and impl.copyCard return. -/
import Derived.Test.YtfhpbgmnekhfeaaCardImpl2
import Derived.Deep.RegionLaw
namespace Go.Proofs.Ytfhpbgmnekhfeaa.Card
open Go.ChangeShapes Go.WideShapes Go.ChangeAt Go.RowKit
open Go.Proofs.Ytfhpbgmnekhfeaa.Strip Go.Proofs.Ytfhpbgmnekhfeaa.Strs
set_option linter.unusedVariables false

/-- The two blocks with which a function of one card begins: its argument's and its result's. -/
theorem begin2 (w : World) (d f : Int) (v : Value) : ∃ W, W = (w.alloc (.cells #[.int .i64 d, .int .i64 f, v] 26)).alloc (.cells #[.int .i64 0, .int .i64 0, .slice none 0 0] 26) ∧ Var W w.heap.size d f v ∧ Var W (w.heap.size + 1) 0 0 (.slice none 0 0) ∧ Below w.heap.size w W ∧ W.heap.size = w.heap.size + 1 + 1 := by
  refine ⟨_, rfl, (Var.new w d f v).below (alloc_below _ _), ?_, ((Below.refl _ _).alloc (Nat.le_refl _) _).alloc (by simp) _, by simp⟩
  have h := Var.new (w.alloc (.cells #[.int .i64 d, .int .i64 f, v] 26)) 0 0 (.slice none 0 0)
  rwa [show (w.alloc (.cells #[.int .i64 d, .int .i64 f, v] 26)).heap.size = w.heap.size + 1 by simp] at h

theorem var_after {W w1 : World} {o : Obj} {row : Option Nat} {b : Nat} {d f : Int} {v : Value} (h : Var W b d f v) (hg : (W.alloc o).drew.grownBy w1 row) (hne : some b ≠ row) : Var w1 b d f v :=
  Var.grown (w := (W.alloc o).drew) (h.below (alloc_below _ _).drew) hg hne

end Go.Proofs.Ytfhpbgmnekhfeaa.Card
